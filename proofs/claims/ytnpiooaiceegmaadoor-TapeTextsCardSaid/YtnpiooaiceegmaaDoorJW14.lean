/-
  Joined: In10 In11 In12 Itm Tp3 Tp5 Tp6 Tp7 Tp8 Tp10 Tp9.
-/
import Derived.Test.YtnpiooaiceegmaaDoorJW02
import Derived.Test.YtnpiooaiceegmaaDoorJW08
import Derived.Test.YtnpiooaiceegmaaDoorJW09
import Derived.Test.YtnpiooaiceegmaaDoorJW11
import Derived.Test.YtnpiooaiceegmaaDoorJW12
import Derived.Test.YtnpiooaiceegmaaDoorJW13
import Derived.Laws.BytesString
import Derived.Deep.Onto
import Derived.Deep.RegionHeld3
set_option linter.unusedVariables false
set_option linter.unusedSimpArgs false
set_option maxRecDepth 100000
set_option linter.unusedVariables false
set_option linter.unusedSimpArgs false
namespace Go.Proofs.YtnpiooaiceegmaaDoor
open Go.RowKit
section
variable {S : Nat → Prop} {p q B : Nat} {s : IS} {K : List Ky} {w w' : World}
end
end Go.Proofs.YtnpiooaiceegmaaDoor
set_option linter.unusedVariables false
set_option linter.unusedSimpArgs false
namespace Go.Proofs.YtnpiooaiceegmaaDoor
open Go.RowKit
/-- An object as it may be, N bytes of a paste behind. -/
structure GS (N : Nat) (s : IS) : Prop where
  m : 1 ≤ s.most ∧ s.most ≤ 65536
  w : s.wait = [] ∨ WOk s.wait
  p : s.pas = true → s.wait = [] ∧ s.mt < 6 ∧ s.mt ≤ s.ct ∧ s.ct ≤ N ∧ (s.pb.length : Int) = min (s.ct : Int) (s.most + 6)
theorem GS.mono {N M : Nat} {s : IS} (h : GS N s) (hN : N ≤ M) : GS M s := ⟨h.m, h.w, fun e => by
  obtain ⟨h1, h2, h3, h4, h5⟩ := h.p e
  exact ⟨h1, h2, h3, by omega, h5⟩⟩
end Go.Proofs.YtnpiooaiceegmaaDoor
set_option linter.unusedVariables false
set_option linter.unusedSimpArgs false
namespace Go.Proofs.YtnpiooaiceegmaaDoor
open Go.RowKit
/-- Items lie in memory, in blocks of S. -/
def ItemsIn (S : Nat → Prop) (w : World) (a : Option Addr) (l : List (Bool × UInt8)) : Prop :=
  ∀ i, i < l.length → ∃ b off, a = some ⟨b, off, none⟩ ∧ S b ∧ w.cell? ⟨b, off + i * 2, none⟩ = some (.bool (l.getD i (false, 0)).1) ∧ w.cell? ⟨b, off + i * 2 + 1, none⟩ = some (.int .u8 ((l.getD i (false, 0)).2.toNat : Int))
theorem cellb_in {w w' : World} {b : Nat} (h : w'.heap[b]? = w.heap[b]?) (i : Nat) : w'.cell? ⟨b, i, none⟩ = w.cell? ⟨b, i, none⟩ := by unfold World.cell?; rw [h]
theorem ItemsIn.kept {S : Nat → Prop} {w w' : World} {a : Option Addr} {l : List (Bool × UInt8)} (h : ItemsIn S w a l) (k : KeptM S w w') : ItemsIn S w' a l := fun i hi => by
  obtain ⟨b, off, e, hS, h1, h2⟩ := h i hi
  exact ⟨b, off, e, hS, (cellb_in (k.block b hS) _).trans h1, (cellb_in (k.block b hS) _).trans h2⟩
section
variable {S : Nat → Prop} {p : Nat} {s : IS} {w w' : World}
theorem GS.w9 {N : Nat} (h : GS N s) : s.wait.length ≤ 9 := by
  rcases h.w with h | h | h | ⟨g, h, hg⟩ | ⟨_, _, h⟩
  · rw [h]; simp
  · rw [h]; simp
  · rw [h]; simp
  · rw [h]; simp; omega
  · omega
end
end Go.Proofs.YtnpiooaiceegmaaDoor
set_option linter.unusedVariables false
set_option linter.unusedSimpArgs false
namespace Go.Proofs.YtnpiooaiceegmaaDoor
open Go.RowKit
abbrev It := Bool × UInt8
def itC (L : List It) : List Value := L.flatMap fun p => [Value.bool p.1, Value.int .u8 (p.2.toNat : Int)]
theorem itC_at (L : List It) : ∀ i, i < L.length → (itC L)[i * 2]? = some (.bool (L.getD i (false, 0)).1) ∧ (itC L)[i * 2 + 1]? = some (.int .u8 ((L.getD i (false, 0)).2.toNat : Int)) := by
  induction L with
  | nil => intro i hi; simp at hi
  | cons x L ih =>
    intro i hi
    cases i with
    | zero => exact ⟨rfl, rfl⟩
    | succ i =>
      have h := ih i (by simpa using hi)
      rw [show (i + 1) * 2 = i * 2 + 1 + 1 by omega]
      exact h
/-- A row of items of the call's own. -/
def OwI (w : World) (B : Nat) (v : Value) (L : List It) : Prop := w.ownsRow B 222 2 v L.length (itC L)
theorem OwI.at {w : World} {B : Nat} {v : Value} {L : List It} (h : OwI w B v L) : ∃ a c, v = .slice a L.length c ∧ (a = none → c = 0) ∧ ItsIn w a L ∧ ItemsIn (fun k => v.ownBlock = some k) w a L := by
  unfold OwI at h
  rcases h.2 with ⟨rfl, h0⟩ | ⟨g, cap, cur, rfl, hB, hg, hle, _⟩
  · exact ⟨none, 0, by rw [h0], fun _ => rfl, fun j hj => by omega, fun j hj => by omega⟩
  · have hc : ∀ j, j < L.length → w.cell? ⟨g, 0 + j * 2, none⟩ = some (.bool (L.getD j (false, 0)).1) ∧ w.cell? ⟨g, 0 + j * 2 + 1, none⟩ = some (.int .u8 ((L.getD j (false, 0)).2.toNat : Int)) := fun j hj => by
      have := itC_at L j hj
      refine ⟨?_, ?_⟩
      · rw [Nat.zero_add, h.cellAt (j * 2) (by omega)]; exact this.1
      · rw [Nat.zero_add, h.cellAt (j * 2 + 1) (by omega)]; exact this.2
    exact ⟨_, cap, rfl, fun e => (by cases e), fun j hj => ⟨g, 0, rfl, blk_lt hg, hc j hj⟩, fun j hj => ⟨g, 0, rfl, rfl, hc j hj⟩⟩
theorem OwI.mono {w : World} {B B' : Nat} {v : Value} {L : List It} (h : OwI w B v L) (hB : B' ≤ B) : OwI w B' v L := World.ownsRow.mono h hB
theorem OwI.below {w w' : World} {B : Nat} {v : Value} {L : List It} (h : OwI w B v L) (hb : Below w.heap.size w w') : OwI w' B v L := by
  refine h.kept (row := none) ⟨hb.os, hb.tape, hb.output, hb.size, fun k hk _ => hb.block k hk⟩ ?_
  cases v.ownBlock <;> simp
end Go.Proofs.YtnpiooaiceegmaaDoor
set_option linter.unusedVariables false
set_option linter.unusedSimpArgs false
namespace Go.Proofs.YtnpiooaiceegmaaDoor
open Go.RowKit
theorem wdB_cons (b : UInt8) : ∃ c r, wdB b = c :: r := by
  unfold wdB; split <;> exact ⟨_, _, rfl⟩
theorem wdL_app (a b : List UInt8) : wdL (a ++ b) = wdL a ++ b.flatMap wdB := by
  unfold wdL; rw [List.flatMap_append]; rfl
/-- A text whose word this is has been read so far. -/
def UwI (W p : List UInt8) (i : Nat) : Prop := ∀ s, wdL s = W → ∃ k, k ≤ s.length ∧ p = s.take k ∧ (wdL p).length = i
theorem uw_0 (W : List UInt8) : UwI W [] 1 := fun s h => ⟨0, Nat.zero_le _, rfl, rfl⟩
theorem uw_at {W p : List UInt8} {i : Nat} (h : UwI W p i) {s : List UInt8} (hs : wdL s = W) (hi : i < W.length) : ∃ x r, s = p ++ x :: r ∧ W.drop i = wdB x ++ r.flatMap wdB := by
  obtain ⟨k, hk, hp, hl⟩ := h s hs
  have hsp : s = p ++ s.drop k := by rw [hp, List.take_append_drop]
  cases hd : s.drop k with
  | nil =>
    rw [hd, List.append_nil] at hsp
    rw [← hs, hsp] at hi
    omega
  | cons x r =>
    rw [hd] at hsp
    refine ⟨x, r, hsp, ?_⟩
    rw [← hs, hsp, wdL_app, ← hl, List.drop_left, List.flatMap_cons]
theorem uw_push {W p : List UInt8} {i : Nat} (h : UwI W p i) {s : List UInt8} (hs : wdL s = W) {x : UInt8} {r : List UInt8} (e : s = p ++ x :: r) : ∃ k, k ≤ s.length ∧ p ++ [x] = s.take k ∧ (wdL (p ++ [x])).length = i + (wdB x).length := by
  obtain ⟨k, hk, hp, hl⟩ := h s hs
  refine ⟨p.length + 1, ?_, ?_, ?_⟩
  · rw [e, List.length_append, List.length_cons]; omega
  · rw [e, List.take_append]
    simp
    exact (List.take_of_length_le (by omega)).symm
  · rw [wdL_app, List.length_append, hl]; simp
theorem uw_plain {W p : List UInt8} {i : Nat} (h : UwI W p i) (hi : i < W.length) (hc : W.getD i 0 ≠ 92) : UwI W (p ++ [W.getD i 0]) (i + 1) := fun s hs => by
  obtain ⟨x, r, e, hd⟩ := uw_at h hs hi
  have hg : W.getD i 0 = (wdB x ++ r.flatMap wdB).getD 0 0 := by
    rw [← hd, List.getD, List.getD, List.getElem?_drop]; rfl
  by_cases hp : wdP x
  · have hB : wdB x = [x] := if_pos hp
    rw [hB] at hg
    have hx : W.getD i 0 = x := hg
    have := uw_push h hs e
    rw [hB] at this
    rw [hx]; exact this
  · have hB : wdB x = 92 :: hexN (x.toNat : Int) 2 := if_neg hp
    rw [hB] at hg
    exact absurd hg hc
/-- Where a backslash stands, two digits do. -/
theorem uw_hex {W p : List UInt8} {i : Nat} (h : UwI W p i) (hi : i < W.length) (hc : W.getD i 0 = 92) {s : List UInt8} (hs : wdL s = W) : ∃ x r, s = p ++ x :: r ∧ i + 2 < W.length ∧ (W.drop (i + 1)).take 2 = hexN (x.toNat : Int) 2 ∧ (wdB x).length = 3 := by
  obtain ⟨x, r, e, hd⟩ := uw_at h hs hi
  have hg : W.getD i 0 = (wdB x ++ r.flatMap wdB).getD 0 0 := by
    rw [← hd, List.getD, List.getD, List.getElem?_drop]; rfl
  have hp : ¬ wdP x := fun hp => by
    have hB : wdB x = [x] := if_pos hp
    rw [hB] at hg
    have hx : W.getD i 0 = x := hg
    rw [hc] at hx
    exact hp.2.2 (by rw [← hx]; rfl)
  have hB : wdB x = 92 :: hexN (x.toNat : Int) 2 := if_neg hp
  have h2 := (hex2 x).1
  have hlen := congrArg List.length hd
  rw [List.length_drop, List.length_append, hB, List.length_cons, h2] at hlen
  refine ⟨x, r, e, by omega, ?_, by rw [hB, List.length_cons, h2]⟩
  have : W.drop (i + 1) = (W.drop i).drop 1 := by rw [List.drop_drop]
  rw [this, hd, hB, List.cons_append, List.drop_succ_cons, List.drop_zero, List.take_append, h2]
  simp [List.take_of_length_le (Nat.le_of_eq h2)]
theorem uw_push3 {W p : List UInt8} {i : Nat} (h : UwI W p i) (hi : i < W.length) (hc : W.getD i 0 = 92) : UwI W (p ++ [(uhR ((W.drop (i + 1)).take 2)).toNat.toUInt8]) (i + 3) := fun s hs => by
  obtain ⟨x, r, e, _, hx, h3⟩ := uw_hex h hi hc hs
  have := uw_push h hs e
  rw [h3] at this
  rw [hx, (hex2 x).2.2.1]
  rw [show ((x.toNat : Int).toNat).toUInt8 = x from by simp]
  exact this
theorem uw_end {W p : List UInt8} {i : Nat} (h : UwI W p i) (hi : ¬ i < W.length) {s : List UInt8} (hs : wdL s = W) : s = p := by
  obtain ⟨k, hk, hp, hl⟩ := h s hs
  have hsp : s = p ++ s.drop k := by rw [hp, List.take_append_drop]
  cases hd : s.drop k with
  | nil => rw [hd, List.append_nil] at hsp; exact hsp
  | cons x r =>
    rw [hd] at hsp
    have hw : W = wdL p ++ (wdB x ++ r.flatMap wdB) := by rw [← hs, hsp, wdL_app, List.flatMap_cons]
    obtain ⟨c, q, hB⟩ := wdB_cons x
    rw [hB] at hw
    have := congrArg List.length hw
    rw [List.length_append, List.length_append, List.length_cons] at this
    omega
end Go.Proofs.YtnpiooaiceegmaaDoor
set_option linter.unusedVariables false
set_option linter.unusedSimpArgs false
namespace Go.Proofs.YtnpiooaiceegmaaDoor
open Go.RowKit
/-- Words, a blank between. -/
def tjS : List (List UInt8) → List UInt8
  | [] => []
  | x :: r => x ++ r.flatMap fun y => 32 :: y
theorem tjS_snoc (L : List (List UInt8)) (y : List UInt8) (h : L ≠ []) : tjS (L ++ [y]) = tjS L ++ 32 :: y := by
  cases L with
  | nil => exact absurd rfl h
  | cons x r =>
    show x ++ (r ++ [y]).flatMap _ = x ++ r.flatMap _ ++ _
    rw [List.flatMap_append]
    simp
theorem joK_tj (L : List (List UInt8)) : ∀ k, k ≤ L.length → joK ⟨#[32]⟩ (L.map mkL) k = tjS (L.take k)
  | 0, _ => rfl
  | 1, h => by
    cases L with
    | nil => simp at h
    | cons x r =>
      show bysL (mkL x) = tjS [x]
      simp [tjS]; rfl
  | k + 2, h => by
    have ih := joK_tj L (k + 1) (by omega)
    have hk : k + 1 < L.length := by omega
    rw [List.take_succ_eq_append_getElem hk, tjS_snoc _ _ (by
      intro e
      have := congrArg List.length e
      rw [List.length_take, List.length_nil] at this
      omega), ← ih]
    show joK _ _ (k + 1) ++ bysL _ ++ bysL ((L.map mkL).getD (k + 1) ⟨#[]⟩) = _
    rw [List.getD, List.getElem?_map, List.getElem?_eq_getElem hk, List.append_assoc]
    rfl
theorem infoTS : (Tryd.prog.info? 9).map (fun i => (i.zero, i.size, i.bytes)) = some (some (.string ⟨#[]⟩), 1, 16) := by kernel_rfl
/-- A row of words of the call's own. -/
def owS (w : World) (B : Nat) (v : Value) (L : List (List UInt8)) : Prop := w.ownsRow B 9 1 v L.length (L.map fun x => Value.string (mkL x))
theorem owS_below {w w' : World} {B : Nat} {v : Value} {L : List (List UInt8)} (h : owS w B v L) (hb : Below w.heap.size w w') : owS w' B v L :=
  World.ownsRow.kept h (row := none) ⟨hb.os, hb.tape, hb.output, hb.size, fun k hk _ => hb.block k hk⟩ (by cases v.ownBlock <;> simp)
theorem owS_at {w : World} {B : Nat} {v : Value} {L : List (List UInt8)} (h : owS w B v L) : ∃ a c, v = .slice a L.length c ∧ L.length ≤ c ∧ StI w a (L.map mkL) := by
  unfold owS at h
  rcases h.2 with ⟨rfl, h0⟩ | ⟨g, cap, cur, rfl, hB, hg, hle, hr⟩
  · exact ⟨none, 0, by rw [h0], by omega, fun i hi => by rw [List.length_map] at hi; omega⟩
  · refine ⟨_, cap, rfl, hle, fun i hi => ⟨g, 0, rfl, blk_lt hg, ?_⟩⟩
    rw [List.length_map] at hi
    rw [Nat.zero_add, h.cellAt i (by omega), List.getElem?_map, List.getD, List.getElem?_map, List.getElem?_eq_getElem hi]
    rfl
theorem owS_form {w : World} {B n : Nat} {v : Value} {L : List (List UInt8)} (h : owS w B v L) (hn : L.length = n) : ∃ a c, v = .slice a n c := by
  obtain ⟨a, c, e, _⟩ := owS_at h
  exact ⟨a, c, by rw [e, hn]⟩
set_option maxHeartbeats 2000000 in
theorem tjoin_one (x : List UInt8) (a : Option Addr) (c : Nat) (w : World) (h : StI w a [mkL x]) : Calls Tryd.prog 63 #[.slice a 1 c, .string ⟨#[32]⟩] w fun e w' => e = .returned (.string (mkL x)) ∧ w = w' := by
  obtain ⟨b, off, rfl, hbl, h0⟩ := h 0 (Nat.zero_lt_one)
  rw [Nat.add_zero, show ([mkL x] : List ByteArray).getD 0 ⟨#[]⟩ = mkL x from rfl] at h0
  clear h
  go_enter Tryd.func63, Tryd.ntmps63
  go_wp2
  go_ret
  exact ⟨rfl, rfl⟩
theorem tjoin_any (L : List (List UInt8)) (a : Option Addr) (n c : Nat) (w : World) (hn : L.length = n) (h1 : 1 ≤ n) (hm : n ≤ 1000000) (hc : n ≤ c) (hE : ∀ x, x ∈ L → x.length ≤ 1000000) (h : StI w a (L.map mkL)) :
    Calls Tryd.prog 63 #[.slice a n c, .string ⟨#[32]⟩] w fun e w' => e = .returned (.string (mkL (tjS L))) ∧ Below w.heap.size w w' := by
  subst hn
  by_cases h2 : 2 ≤ L.length
  · have hE' : ∀ i, ((L.map mkL).getD i ⟨#[]⟩).size ≤ 1000000 := fun i => by
      rw [List.getD, List.getElem?_map]
      by_cases hi : i < L.length
      · rw [List.getElem?_eq_getElem hi]
        show (mkL L[i]).size ≤ _
        rw [mkL_size]; exact hE _ (List.getElem_mem hi)
      · rw [List.getElem?_eq_none (by omega)]
        exact Nat.zero_le _
    have J := join_any ⟨#[32]⟩ (L.map mkL) a c w (by decide) (by decide) hE' (by rw [List.length_map]; exact h2) (by rw [List.length_map]; exact hm) (by rw [List.length_map]; exact hc) h
    rw [List.length_map, joK_tj L _ (Nat.le_refl _), List.take_length] at J
    exact J
  · match L, h1, h2, h with
    | [x], _, _, h =>
      refine (tjoin_one x a c w h).mono ?_
      rintro e w' ⟨rfl, rfl⟩
      exact ⟨by simp [tjS], Below.refl _ _⟩
    | [], h1, _, _ => simp at h1
    | _ :: _ :: _, _, h2, _ => simp at h2
end Go.Proofs.YtnpiooaiceegmaaDoor
set_option linter.unusedVariables false
set_option linter.unusedSimpArgs false
namespace Go.Proofs.YtnpiooaiceegmaaDoor
open Go.RowKit
theorem tdec_any (n : Int) (w : World) (h0 : -9223372036854775808 ≤ n) (h1 : n ≤ 9223372036854775807) : Calls Tryd.prog 108 #[.int .i64 n] w fun e w' => e = .returned (.string (mkL (decS n))) ∧ Below w.heap.size w w' := dec_any n w h0 h1
def cfW : List UInt8 := [99, 111, 110, 102]
def cfK (vi : Bool) : List UInt8 := if vi = true then [118, 105] else [101, 109, 97, 99, 115]
def cfL (N : List Int) (k : Nat) : List (List UInt8) := cfW :: (N.take k).map decS
theorem cfL_succ (N : List Int) (k : Nat) (h : k < N.length) : cfL N (k + 1) = cfL N k ++ [decS (N.getD k 0)] := by
  unfold cfL
  rw [List.take_succ_eq_append_getElem h, List.map_append, List.getD, List.getElem?_eq_getElem h]; rfl
theorem cfL_len (N : List Int) (k : Nat) (h : k ≤ N.length) : (cfL N k).length = k + 1 := by
  unfold cfL; rw [List.length_cons, List.length_map, List.length_take]; omega
def cfLine (N : List Int) (vi : Bool) (p : List UInt8) : List UInt8 := tjS (cfL N 8 ++ [cfK vi, wdL p])
def in64 (v : Int) : Prop := -9223372036854775808 ≤ v ∧ v ≤ 9223372036854775807
theorem tst_ne_cf : 23 ≠ 9 := by decide
theorem tst_ne_i : 3 ≠ 9 := by decide
set_option maxHeartbeats 8000000 in
set_option maxRecDepth 100000 in
theorem tconf_any (n0 n1 n2 n3 n4 n5 n6 n7 : Int) (vi : Bool) (p : List UInt8) (w : World) (hp : p.length ≤ 300000) (hN : ∀ x, x ∈ [n0, n1, n2, n3, n4, n5, n6, n7] → in64 x) :
    Calls Tryd.prog 49 #[.agg #[.int .i64 n0, .int .i64 n1, .int .i64 n2, .int .i64 n3, .int .i64 n4, .int .i64 n5, .int .i64 n6, .int .i64 n7, .bool vi, .string (mkL p)]] w fun e w' => e = .returned (.string (mkL (cfLine [n0, n1, n2, n3, n4, n5, n6, n7] vi p))) ∧ Below w.heap.size w w' := by
  obtain ⟨i0, hi, hz0, hz1, hz2⟩ := info_parts infoTS
  obtain ⟨R, hR⟩ : ∃ R, cfLine [n0, n1, n2, n3, n4, n5, n6, n7] vi p = R := ⟨_, rfl⟩
  rw [hR]
  have HR := Lib.hid hR
  have HN := Lib.hid hN
  have b0 := below_alloc w (.cells #[.int .i64 n0, .int .i64 n1, .int .i64 n2, .int .i64 n3, .int .i64 n4, .int .i64 n5, .int .i64 n6, .int .i64 n7, .bool vi, .string (mkL p)] 23)
  have r0 := heap_alloc_new w (.cells #[.int .i64 n0, .int .i64 n1, .int .i64 n2, .int .i64 n3, .int .i64 n4, .int .i64 n5, .int .i64 n6, .int .i64 n7, .bool vi, .string (mkL p)] 23)
  obtain ⟨W0, hW0⟩ : ∃ W0, w.alloc (.cells #[.int .i64 n0, .int .i64 n1, .int .i64 n2, .int .i64 n3, .int .i64 n4, .int .i64 n5, .int .i64 n6, .int .i64 n7, .bool vi, .string (mkL p)] 23) = W0 := ⟨_, rfl⟩
  rw [hW0] at b0 r0
  have b1 := below_alloc W0 (.cells #[.string (mkL cfW)] 9)
  have o1 : owS (W0.alloc (.cells #[.string (mkL cfW)] 9)) w.heap.size (.slice (some ⟨W0.heap.size, 0, none⟩) 1 1) (cfL [n0, n1, n2, n3, n4, n5, n6, n7] 0) := ⟨rfl, .inr ⟨W0.heap.size, 1, #[.string (mkL cfW)], rfl, b0.size, heap_alloc_new _ _, Nat.le_refl _, by decide, rfl, rfl⟩⟩
  have r1 := blk_below r0 b1
  have b01 := seqB b0 b1
  have o1' : owS (W0.alloc (.cells #[.string ⟨#[99, 111, 110, 102]⟩] 9)) w.heap.size (.slice (some ⟨W0.heap.size, 0, none⟩) 1 1) (cfL [n0, n1, n2, n3, n4, n5, n6, n7] 0) := o1
  have b1' : Below W0.heap.size W0 (W0.alloc (.cells #[.string ⟨#[99, 111, 110, 102]⟩] 9)) := b1
  have r1' : (W0.alloc (.cells #[.string ⟨#[99, 111, 110, 102]⟩] 9)).heap[w.heap.size]? = some (.cells #[.int .i64 n0, .int .i64 n1, .int .i64 n2, .int .i64 n3, .int .i64 n4, .int .i64 n5, .int .i64 n6, .int .i64 n7, .bool vi, .string (mkL p)] 23 (0, 0)) := r1
  have b01' : Below w.heap.size w (W0.alloc (.cells #[.string ⟨#[99, 111, 110, 102]⟩] 9)) := b01
  clear o1 b1 r1 b01
  obtain ⟨S0, hS0⟩ : ∃ S0, W0.heap.size = S0 := ⟨_, rfl⟩
  obtain ⟨W1, hW1⟩ : ∃ W1, W0.alloc (.cells #[.string ⟨#[99, 111, 110, 102]⟩] 9) = W1 := ⟨_, rfl⟩
  rw [hW1] at b1' r1' b01' o1'
  rw [hS0] at o1'
  have b2 := below_alloc W1 (.cells #[.int .i64 n0, .int .i64 n1, .int .i64 n2, .int .i64 n3, .int .i64 n4, .int .i64 n5, .int .i64 n6, .int .i64 n7] 3)
  have q2 := heap_alloc_new W1 (.cells #[.int .i64 n0, .int .i64 n1, .int .i64 n2, .int .i64 n3, .int .i64 n4, .int .i64 n5, .int .i64 n6, .int .i64 n7] 3)
  have O2 := Lib.hid (owS_below o1' b2)
  have R2 := Lib.hid (blk_below r1' b2)
  have B2 := Lib.hid (seqB b01' b2)
  have zz := fun i => cell_of_row _ _ i _ _ _ r1'
  have f0 := zz 0; have f1 := zz 1; have f2 := zz 2; have f3 := zz 3; have f4 := zz 4; have f5 := zz 5; have f6 := zz 6; have f7 := zz 7
  dsimp at f0 f1 f2 f3 f4 f5 f6 f7
  have Q2 := Lib.hid q2
  clear zz o1' b1' r1' b01' b0 r0 b2 q2 hR hN
  go_enter Tryd.func49, Tryd.ntmps49
  go_upto_region 2 with fail
  clear hS0 hW0
  go_upto_region 3 with fail
  clear hW1 f0 f1 f2 f3 f4 f5 f6 f7
  obtain ⟨N, hNN⟩ : ∃ N, [n0, n1, n2, n3, n4, n5, n6, n7] = N := ⟨_, rfl⟩
  have hNl : N.length = 8 := by rw [← hNN]; rfl
  have hrow : #[Value.int .i64 n0, .int .i64 n1, .int .i64 n2, .int .i64 n3, .int .i64 n4, .int .i64 n5, .int .i64 n6, .int .i64 n7] = (N.map (Value.int .i64)).toArray := by rw [← hNN]; rfl
  rw [hNN] at HN HR O2
  rw [hrow] at Q2 R2 O2 B2 ⊢
  clear hrow hNN
  obtain ⟨S1, hS1⟩ : ∃ S1, W1.heap.size = S1 := ⟨_, rfl⟩
  obtain ⟨CF, hCF⟩ : ∃ CF, #[Value.int .i64 n0, .int .i64 n1, .int .i64 n2, .int .i64 n3, .int .i64 n4, .int .i64 n5, .int .i64 n6, .int .i64 n7, .bool vi, .string (mkL p)] = CF := ⟨_, rfl⟩
  have g8 : CF[8]? = some (.bool vi) := by rw [← hCF]; rfl
  have g9 : CF[9]? = some (.string (mkL p)) := by rw [← hCF]; rfl
  rw [hCF] at R2
  rw [hS1] at Q2 ⊢
  obtain ⟨W2, hW2⟩ : ∃ W2, W1.alloc (.cells (N.map (Value.int .i64)).toArray 3) = W2 := ⟨_, rfl⟩
  rw [hW2] at Q2 R2 O2 B2 ⊢
  clear hW2 hS1 hCF
  obtain ⟨m, hm⟩ : ∃ m : Nat, m = 8 := ⟨_, rfl⟩
  rw [show Value.slice (some ⟨S1, 0, none⟩) 8 8 = Value.slice (some ⟨S1, 0, none⟩) m m by rw [hm], show Value.int .i64 8 = Value.int .i64 (m : Int) by rw [hm]; rfl]
  replace hm := Lib.hid hm
  go_loopw [3, 26] (fun wv iv wr => ∃ (k : Nat) (a : Option Addr) (c : Nat), k ≤ m ∧ iv = .int .i64 (k : Int) ∧ wv = .slice a (k + 1) c ∧ Hid (owS wr w.heap.size (.slice a (k + 1) c) (cfL N k)) ∧ Hid (wr.heap[w.heap.size]? = some (.cells CF 23 (0, 0))) ∧ Hid (wr.heap[S1]? = some (.cells (N.map (Value.int .i64)).toArray 3 (0, 0))) ∧ Hid (Below w.heap.size w wr)) (fun _ iv _ => m - (intOf iv).toNat)
  case atStart => exact ⟨0, _, 1, Nat.zero_le _, rfl, rfl, O2, R2, Q2, B2⟩
  case round =>
    clear O2 R2 Q2 B2
    obtain ⟨k, a, c, hk, rfl, rfl, HO, HX, HQ, HB⟩ := hrel
    have NB := HB.out
    have hsz := NB.size
    have hown := HO.out
    unfold owS at hown
    have hm8 := hm.out
    have hcl := cfL_len N k (by omega)
    have hNk : k < m → k < N.length := fun h => by omega
    have hm9 : (m : Int) ≤ 8 := by omega
    clear hm8
    rw [hcl] at hown
    by_cases hlt : k < m
    · have hk1 : (k : Int) < (m : Int) := by omega
      have hk0 : (0 : Int) ≤ k := by omega
      have d := cell_of_row _ _ k _ _ _ HQ.out
      rw [List.getElem?_toArray, List.getElem?_map, List.getElem?_eq_getElem (hNk hlt)] at d
      have hg : N.getD k 0 = N[k]'(hNk hlt) := by rw [List.getD, List.getElem?_eq_getElem (hNk hlt)]; rfl
      have hin := HN.out (N[k]'(hNk hlt)) (List.getElem_mem _)
      have hcs := cfL_succ N k (hNk hlt)
      rw [hg] at hcs
      dsimp at d
      generalize (N[k]'(hNk hlt)) = v at *
      have D := Lib.hid (fun w => tdec_any v w hin.1 hin.2)
      have HCS := Lib.hid hcs
      generalize cfL N k = L at *
      generalize decS v = dv at *
      clear hcs hin hg HO
      go_wp2_with (first
        | (go_at_call 108; refine (D.out _).mono ?_; rintro e w3 ⟨rfl, hb3⟩; have hown3 : w3.ownsRow w.heap.size 9 1 (.slice a (k + 1) c) (k + 1) _ := World.ownsRow.kept hown (row := none) ⟨hb3.os, hb3.tape, hb3.output, hb3.size, fun k hk _ => hb3.block k hk⟩ (by cases (Value.slice a (k + 1) c).ownBlock <;> simp); have hb4 := seqB NB hb3; have hsz4 := hb4.size; have h3X := blk_below HX.out hb3; have h3Q := blk_below HQ.out hb3)
        | (at_builtin; refine wpList_append_own _ rfl _ _ 36 rfl w.heap.size 9 i0 _ 1 16 Tryd.underlying36 hi hz0 hz1 hz2 rfl (by decide) _ _ _ rfl (hown3.alloc _) ⟨w3.heap.size, 0, none⟩ 1 1 [.string (mkL dv)] rfl rfl ?g1 ?g2 ?g3 ?g4 ?g5 ?_))
      case g1 => intro j x hj; exact app_cells rfl hj
      case g2 => simp [Value.oneCell']
      case g3 => unfold maxLen; omega
      case g4 => omega
      case g5 => simp; omega
      intro v' w5 hown5 hgrow5 _
      have hA := below_alloc w3 (.cells #[.string (mkL dv)] 9)
      have N5 := Lib.hid ((hb4.alloc hb4.size (.cells #[.string (mkL dv)] 9)).grown hgrow5 (by simp; omega) (fun j hj => (hown3.lt j hj).1))
      have hX5 := (hgrow5.block w.heap.size (blk_lt (blk_below h3X hA)) (fun e => own_ne_kind (hown3.alloc _) (blk_below h3X hA) tst_ne_cf e.symm)).trans (blk_below h3X hA)
      have hQ5 := (hgrow5.block S1 (blk_lt (blk_below h3Q hA)) (fun e => own_ne_kind (hown3.alloc _) (blk_below h3Q hA) tst_ne_i e.symm)).trans (blk_below h3Q hA)
      have O5 : owS w5 w.heap.size v' (cfL N (k + 1)) := by
        unfold owS
        rw [HCS.out, List.length_append, List.map_append, hcl]
        exact hown5
      obtain ⟨a5, c5, e5⟩ := owS_form O5 (n := k + 1 + 1) (by rw [cfL_len N (k + 1) (hNk hlt)])
      subst e5
      have O5 := Lib.hid O5
      have X5 := Lib.hid hX5
      have Q5 := Lib.hid hQ5
      clear hown5 hgrow5 hown3 hown hA hX5 hQ5 h3X h3Q
      go_wp2
      go_roundw
      case rel => exact ⟨k + 1, a5, c5, by omega, by go_num, rfl, O5, X5, Q5, N5⟩
      case measure => (simp [intOf]; try omega)
    · obtain rfl : k = m := by omega
      have hmm : ¬ (k : Int) < (k : Int) := by omega
      have f8 := (cell_of_row _ _ 8 _ _ _ HX.out).trans g8
      have f9 := (cell_of_row _ _ 9 _ _ _ HX.out).trans g9
      have TW := Lib.hid (fun w => tword_any p w (by omega))
      have hwl := wdL_len p
      have HE : Hid (∀ x, x ∈ cfL N 8 ++ [cfK vi, wdL p] → x.length ≤ 1000000) := Lib.hid (fun x hx => by
        rcases List.mem_append.1 hx with hx | hx
        · unfold cfL at hx
          rcases List.mem_cons.1 hx with rfl | hx
          · decide
          · obtain ⟨y, _, rfl⟩ := List.mem_map.1 hx
            have := decS_len y; omega
        · rcases List.mem_cons.1 hx with rfl | hx
          · cases vi <;> decide
          · rcases List.mem_cons.1 hx with rfl | hx
            · omega
            · cases hx)
      clear hwl hNk
      cases vi
      · go_wp2_with (first
          | (go_at_call 46; refine (TW.out _).mono ?_; rintro e w3 ⟨rfl, hb3⟩; have hown3 : w3.ownsRow w.heap.size 9 1 (.slice a (k + 1) c) (k + 1) _ := World.ownsRow.kept hown (row := none) ⟨hb3.os, hb3.tape, hb3.output, hb3.size, fun k hk _ => hb3.block k hk⟩ (by cases (Value.slice a (k + 1) c).ownBlock <;> simp); have hb4 := seqB NB hb3; have hsz4 := hb4.size)
          | (at_builtin; refine wpList_append_own _ rfl _ _ 36 rfl w.heap.size 9 i0 _ 1 16 Tryd.underlying36 hi hz0 hz1 hz2 rfl (by decide) _ _ _ rfl (hown3.alloc _) ⟨w3.heap.size, 0, none⟩ 2 2 [.string ⟨#[101, 109, 97, 99, 115]⟩, .string (mkL (wdL p))] rfl rfl ?g1 ?g2 ?g3 ?g4 ?g5 ?_))
        case g1 => intro j x hj; exact app_cells rfl hj
        case g2 => simp [Value.oneCell']
        case g3 => unfold maxLen; omega
        case g4 => omega
        case g5 => simp; omega
        intro v' w5 hown5 hgrow5 _
        have N5 := Lib.hid ((hb4.alloc hb4.size (.cells #[.string ⟨#[101, 109, 97, 99, 115]⟩, .string (mkL (wdL p))] 9)).grown hgrow5 (by simp; omega) (fun j hj => (hown3.lt j hj).1))
        have O5 : owS w5 w.heap.size v' (cfL N k ++ [cfK false, wdL p]) := by
          unfold owS
          rw [List.length_append, List.map_append, hcl]
          exact hown5
        obtain ⟨a5, c5, e5, hle5, s5⟩ := owS_at O5
        have hl5 : (cfL N k ++ [cfK false, wdL p]).length = k + 3 := by rw [List.length_append, hcl]; rfl
        have JN := Lib.hid (tjoin_any (cfL N k ++ [cfK false, wdL p]) a5 (k + 3) c5 w5 hl5 (by omega) (by omega) (by omega) (by rw [hm.out]; exact HE.out) s5)
        have HJ : Hid (tjS (cfL N k ++ [cfK false, wdL p]) = R) := Lib.hid (by rw [← HR.out, hm.out]; rfl)
        rw [HJ.out] at JN
        rw [hl5] at e5
        subst e5
        clear hown5 hgrow5 hown3 hown O5 hle5 s5 hl5
        go_wp2_with (go_at_call 63; refine JN.out.mono ?_; rintro e w6 ⟨rfl, hb6⟩)
        go_ret
        exact ⟨rfl, seqB N5.out hb6⟩
      · go_wp2_with (first
          | (go_at_call 46; refine (TW.out _).mono ?_; rintro e w3 ⟨rfl, hb3⟩; have hown3 : w3.ownsRow w.heap.size 9 1 (.slice a (k + 1) c) (k + 1) _ := World.ownsRow.kept hown (row := none) ⟨hb3.os, hb3.tape, hb3.output, hb3.size, fun k hk _ => hb3.block k hk⟩ (by cases (Value.slice a (k + 1) c).ownBlock <;> simp); have hb4 := seqB NB hb3; have hsz4 := hb4.size)
          | (at_builtin; refine wpList_append_own _ rfl _ _ 36 rfl w.heap.size 9 i0 _ 1 16 Tryd.underlying36 hi hz0 hz1 hz2 rfl (by decide) _ _ _ rfl (hown3.alloc _) ⟨w3.heap.size, 0, none⟩ 2 2 [.string ⟨#[118, 105]⟩, .string (mkL (wdL p))] rfl rfl ?g1 ?g2 ?g3 ?g4 ?g5 ?_))
        case g1 => intro j x hj; exact app_cells rfl hj
        case g2 => simp [Value.oneCell']
        case g3 => unfold maxLen; omega
        case g4 => omega
        case g5 => simp; omega
        intro v' w5 hown5 hgrow5 _
        have N5 := Lib.hid ((hb4.alloc hb4.size (.cells #[.string ⟨#[118, 105]⟩, .string (mkL (wdL p))] 9)).grown hgrow5 (by simp; omega) (fun j hj => (hown3.lt j hj).1))
        have O5 : owS w5 w.heap.size v' (cfL N k ++ [cfK true, wdL p]) := by
          unfold owS
          rw [List.length_append, List.map_append, hcl]
          exact hown5
        obtain ⟨a5, c5, e5, hle5, s5⟩ := owS_at O5
        have hl5 : (cfL N k ++ [cfK true, wdL p]).length = k + 3 := by rw [List.length_append, hcl]; rfl
        have JN := Lib.hid (tjoin_any (cfL N k ++ [cfK true, wdL p]) a5 (k + 3) c5 w5 hl5 (by omega) (by omega) (by omega) (by rw [hm.out]; exact HE.out) s5)
        have HJ : Hid (tjS (cfL N k ++ [cfK true, wdL p]) = R) := Lib.hid (by rw [← HR.out, hm.out]; rfl)
        rw [HJ.out] at JN
        rw [hl5] at e5
        subst e5
        clear hown5 hgrow5 hown3 hown O5 hle5 s5 hl5
        go_wp2_with (go_at_call 63; refine JN.out.mono ?_; rintro e w6 ⟨rfl, hb6⟩)
        go_ret
        exact ⟨rfl, seqB N5.out hb6⟩
end Go.Proofs.YtnpiooaiceegmaaDoor
set_option linter.unusedVariables false
set_option linter.unusedSimpArgs false
namespace Go.Proofs.YtnpiooaiceegmaaDoor
open Go.RowKit
def crW : List UInt8 := [99, 114, 97, 115, 104]
def crLine (at' : Int) (keep : List UInt8) : List UInt8 := tjS [crW, decS at', wdL keep]
/-- Bytes that lie in memory read as a text. -/
def Cvt (w : World) (a : Option Addr) (n c : Nat) (l : List UInt8) : Prop := ∀ w', Below w.heap.size w w' → ∀ dst, Tryd.prog.underlying dst = some .string → (convert 95 dst (.slice a n c)).run Tryd.prog w' = .ok (.string (mkL l)) w'
theorem sti_three (w : World) (x y z : List UInt8) : StI (w.alloc (.cells #[.string (mkL x), .string (mkL y), .string (mkL z)] 9)) (some ⟨w.heap.size, 0, none⟩) ([x, y, z].map mkL) := fun i hi => by
  refine ⟨_, 0, rfl, by simp, ?_⟩
  rw [Nat.zero_add, cell_of_row _ _ i _ _ _ (heap_alloc_new _ _)]
  match i, hi with
  | 0, _ => rfl
  | 1, _ => rfl
  | 2, _ => rfl
  | i + 3, h => exact absurd h (by simp)
set_option maxHeartbeats 8000000 in
set_option maxRecDepth 100000 in
theorem tcrash_any (at' : Int) (keep : List UInt8) (a : Option Addr) (n c : Nat) (w : World) (ha : in64 at') (hk : keep.length ≤ 300000) (hC : Cvt w a n c keep) :
    Calls Tryd.prog 50 #[.agg #[.int .i64 at', .slice a n c]] w fun e w' => e = .returned (.string (mkL (crLine at' keep))) ∧ Below w.heap.size w w' := by
  have hdl := decS_len at'
  have hwl := wdL_len keep
  have b0 := below_alloc w (.cells #[.int .i64 at', .slice a n c] 97)
  have r0 := heap_alloc_new w (.cells #[.int .i64 at', .slice a n c] 97)
  obtain ⟨W0, hW0⟩ : ∃ W0, w.alloc (.cells #[.int .i64 at', .slice a n c] 97) = W0 := ⟨_, rfl⟩
  rw [hW0] at b0 r0
  have D := Lib.hid (fun w => tdec_any at' w ha.1 ha.2)
  have TW := Lib.hid (fun w => tword_any keep w (by omega))
  have JN := Lib.hid (fun (w : World) => tjoin_any [crW, decS at', wdL keep] (some ⟨w.heap.size, 0, none⟩) 3 3 (w.alloc (.cells #[.string (mkL crW), .string (mkL (decS at')), .string (mkL (wdL keep))] 9)) rfl (by omega) (by omega) (by omega) (by
    intro x hx
    rcases List.mem_cons.1 hx with rfl | hx
    · decide
    · rcases List.mem_cons.1 hx with rfl | hx
      · omega
      · rcases List.mem_cons.1 hx with rfl | hx
        · omega
        · cases hx) (sti_three w _ _ _))
  have f0 := cell_of_row _ _ 0 _ _ _ r0
  have f1 := cell_of_row _ _ 1 _ _ _ r0
  dsimp at f0 f1
  have hlt := Lib.hid (blk_lt r0)
  have HC := Lib.hid hC
  have B0 := Lib.hid b0
  have F := Lib.hid (And.intro f0 f1)
  obtain ⟨R, hR⟩ : ∃ R, crLine at' keep = R := ⟨_, rfl⟩
  have HR : Hid (tjS [crW, decS at', wdL keep] = R) := Lib.hid hR
  rw [HR.out] at JN
  rw [hR]
  generalize decS at' = ds at *
  generalize wdL keep = wk at *
  have cv0 := hC W0 b0
  have cvd := hC W0.drew b0.drew
  clear hdl hwl hC ha hR b0 r0
  go_enter Tryd.func50, Tryd.ntmps50
  go_upto_region 1 with fail
  go_region_with (first
    | (go_at_call 108; refine (D.out _).mono ?_; rintro e w3 ⟨rfl, hb3⟩; have B3 := Lib.hid (seqB B0.out.drew hb3); have f03 := (hb3.cell (p := ⟨w.heap.size, 0, none⟩) hlt.out).trans F.out.1; have f13 := (hb3.cell (p := ⟨w.heap.size, 1, none⟩) hlt.out).trans F.out.2; have cv3 := HC.out w3 B3.out; clear hb3)
    | (go_at_call 46; refine (TW.out _).mono ?_; rintro e w4 ⟨rfl, hb4⟩)
    | (go_at_call 63; refine (JN.out _).mono ?_; rintro e w5 ⟨rfl, hb5⟩))
  all_goals
    have NN := seqB (seqB B3.out hb4) (seqB (below_alloc w4 _) hb5)
    go_wp2
    go_ret
    exact ⟨rfl, NN⟩
end Go.Proofs.YtnpiooaiceegmaaDoor
set_option linter.unusedVariables false
set_option linter.unusedSimpArgs false
namespace Go.Proofs.YtnpiooaiceegmaaDoor
open Go.RowKit
theorem owS_1 (w : World) (B : Nat) (x : List UInt8) (hB : B ≤ w.heap.size) : owS (w.alloc (.cells #[.string (mkL x)] 9)) B (.slice (some ⟨w.heap.size, 0, none⟩) 1 1) [x] := ⟨rfl, .inr ⟨w.heap.size, 1, #[.string (mkL x)], rfl, hB, heap_alloc_new _ _, Nat.le_refl _, by decide, rfl, rfl⟩⟩
theorem owS_2 (w : World) (B : Nat) (x y : List UInt8) (hB : B ≤ w.heap.size) : owS (w.alloc (.cells #[.string (mkL x), .string (mkL y)] 9)) B (.slice (some ⟨w.heap.size, 0, none⟩) 2 2) [x, y] := ⟨rfl, .inr ⟨w.heap.size, 2, #[.string (mkL x), .string (mkL y)], rfl, hB, heap_alloc_new _ _, Nat.le_refl _, by decide, rfl, rfl⟩⟩
theorem owS_3 (w : World) (B : Nat) (x y z : List UInt8) (hB : B ≤ w.heap.size) : owS (w.alloc (.cells #[.string (mkL x), .string (mkL y), .string (mkL z)] 9)) B (.slice (some ⟨w.heap.size, 0, none⟩) 3 3) [x, y, z] := ⟨rfl, .inr ⟨w.heap.size, 3, #[.string (mkL x), .string (mkL y), .string (mkL z)], rfl, hB, heap_alloc_new _ _, Nat.le_refl _, by decide, rfl, rfl⟩⟩
def byW : List UInt8 := [98, 121, 116, 101, 115]
def tiW : List UInt8 := [116, 105, 99, 107]
def reW : List UInt8 := [114, 101, 115, 105, 122, 101]
def ofW : List UInt8 := [111, 102, 102, 101, 114]
def loW : List UInt8 := [108, 111, 97, 100]
def saW : List UInt8 := [115, 97, 118, 101]
def poW : List UInt8 := [112, 111, 119, 101, 114]
/-- The words of a step: none, if there is no such kind. -/
def swW (k : Int) (t : List UInt8) (n m : Int) (L : List (List UInt8)) : Option (List (List UInt8)) :=
  if k = 0 then some [byW, wdL t] else if k = 1 then some [tiW] else if k = 2 then some [reW, decS n, decS m] else if k = 3 then some (ofW :: L.map wdL)
  else if k = 4 then (if n = 1 then some [loW, wdL t] else some [loW]) else if k = 5 then some [saW] else if k = 6 then some [poW] else none
/-- What is answered of a step's words. -/
def SwP (w : World) (o : Option (List (List UInt8))) (e : Ending) (w' : World) : Prop := (∃ v, e = .returned (.tuple #[v, .bool o.isSome]) ∧ owS w' w.heap.size v (o.getD [])) ∧ Below w.heap.size w w'
section
variable (t : List UInt8) (n m : Int) (a : Option Addr) (l c : Nat) (w : World)
set_option maxHeartbeats 4000000 in
set_option maxRecDepth 100000 in
theorem tsw_0 (ht : t.length ≤ 300000) : Calls Tryd.prog 61 #[.agg #[.int .i64 0, .string (mkL t), .int .i64 n, .int .i64 m, .slice a l c]] w (SwP w (some [byW, wdL t])) := by
  have b0 := below_alloc w (.cells #[.int .i64 0, .string (mkL t), .int .i64 n, .int .i64 m, .slice a l c] 38)
  have r0 := heap_alloc_new w (.cells #[.int .i64 0, .string (mkL t), .int .i64 n, .int .i64 m, .slice a l c] 38)
  obtain ⟨W0, hW0⟩ : ∃ W0, w.alloc (.cells #[.int .i64 0, .string (mkL t), .int .i64 n, .int .i64 m, .slice a l c] 38) = W0 := ⟨_, rfl⟩
  rw [hW0] at b0 r0
  have zz := fun i => cell_of_row _ _ i _ _ _ r0
  have f0 := zz 0; have f1 := zz 1; have f2 := zz 2
  dsimp at f0 f1 f2
  have B0 := Lib.hid b0
  have TW := Lib.hid (fun w => tword_any t w (by omega))
  clear zz b0 r0 ht
  go_enter Tryd.func61, Tryd.ntmps61
  go_wp2_with (go_at_call 46; refine (TW.out _).mono ?_; rintro e w3 ⟨rfl, hb3⟩; have B3 := Lib.hid (seqB B0.out hb3))
  refine bodyPost_ret (v := .tuple #[.slice (some ⟨w3.heap.size, 0, none⟩) 2 2, .bool true]) (by simp [results, Tryd.results61, go_sem]) rfl ?_
  exact ⟨⟨_, rfl, owS_2 w3 w.heap.size byW (wdL t) B3.out.size⟩, seqB B3.out (below_alloc w3 _)⟩
set_option maxHeartbeats 4000000 in
set_option maxRecDepth 100000 in
theorem tsw_1  : Calls Tryd.prog 61 #[.agg #[.int .i64 1, .string (mkL t), .int .i64 n, .int .i64 m, .slice a l c]] w (SwP w (some [tiW])) := by
  have b0 := below_alloc w (.cells #[.int .i64 1, .string (mkL t), .int .i64 n, .int .i64 m, .slice a l c] 38)
  have r0 := heap_alloc_new w (.cells #[.int .i64 1, .string (mkL t), .int .i64 n, .int .i64 m, .slice a l c] 38)
  obtain ⟨W0, hW0⟩ : ∃ W0, w.alloc (.cells #[.int .i64 1, .string (mkL t), .int .i64 n, .int .i64 m, .slice a l c] 38) = W0 := ⟨_, rfl⟩
  rw [hW0] at b0 r0
  have zz := fun i => cell_of_row _ _ i _ _ _ r0
  have f0 := zz 0; have f1 := zz 1; have f2 := zz 2
  dsimp at f0 f1 f2
  have B0 := Lib.hid b0
  clear zz b0 r0
  go_enter Tryd.func61, Tryd.ntmps61
  go_wp2
  refine bodyPost_ret (v := .tuple #[.slice (some ⟨W0.heap.size, 0, none⟩) 1 1, .bool true]) (by simp [results, Tryd.results61, go_sem]) rfl ?_
  exact ⟨⟨_, rfl, owS_1 W0 w.heap.size tiW B0.out.size⟩, seqB B0.out (below_alloc W0 _)⟩
set_option maxHeartbeats 4000000 in
set_option maxRecDepth 100000 in
theorem tsw_4 (ht : t.length ≤ 300000) : Calls Tryd.prog 61 #[.agg #[.int .i64 4, .string (mkL t), .int .i64 1, .int .i64 m, .slice a l c]] w (SwP w (some [loW, wdL t])) := by
  have b0 := below_alloc w (.cells #[.int .i64 4, .string (mkL t), .int .i64 1, .int .i64 m, .slice a l c] 38)
  have r0 := heap_alloc_new w (.cells #[.int .i64 4, .string (mkL t), .int .i64 1, .int .i64 m, .slice a l c] 38)
  obtain ⟨W0, hW0⟩ : ∃ W0, w.alloc (.cells #[.int .i64 4, .string (mkL t), .int .i64 1, .int .i64 m, .slice a l c] 38) = W0 := ⟨_, rfl⟩
  rw [hW0] at b0 r0
  have zz := fun i => cell_of_row _ _ i _ _ _ r0
  have f0 := zz 0; have f1 := zz 1; have f2 := zz 2
  dsimp at f0 f1 f2
  have B0 := Lib.hid b0
  have TW := Lib.hid (fun w => tword_any t w (by omega))
  clear zz b0 r0 ht
  go_enter Tryd.func61, Tryd.ntmps61
  go_wp2_with (go_at_call 46; refine (TW.out _).mono ?_; rintro e w3 ⟨rfl, hb3⟩; have B3 := Lib.hid (seqB B0.out hb3))
  refine bodyPost_ret (v := .tuple #[.slice (some ⟨w3.heap.size, 0, none⟩) 2 2, .bool true]) (by simp [results, Tryd.results61, go_sem]) rfl ?_
  exact ⟨⟨_, rfl, owS_2 w3 w.heap.size loW (wdL t) B3.out.size⟩, seqB B3.out (below_alloc w3 _)⟩
set_option maxHeartbeats 4000000 in
set_option maxRecDepth 100000 in
theorem tsw_4n (hn : (n == 1) = false) : Calls Tryd.prog 61 #[.agg #[.int .i64 4, .string (mkL t), .int .i64 n, .int .i64 m, .slice a l c]] w (SwP w (some [loW])) := by
  have b0 := below_alloc w (.cells #[.int .i64 4, .string (mkL t), .int .i64 n, .int .i64 m, .slice a l c] 38)
  have r0 := heap_alloc_new w (.cells #[.int .i64 4, .string (mkL t), .int .i64 n, .int .i64 m, .slice a l c] 38)
  obtain ⟨W0, hW0⟩ : ∃ W0, w.alloc (.cells #[.int .i64 4, .string (mkL t), .int .i64 n, .int .i64 m, .slice a l c] 38) = W0 := ⟨_, rfl⟩
  rw [hW0] at b0 r0
  have zz := fun i => cell_of_row _ _ i _ _ _ r0
  have f0 := zz 0; have f1 := zz 1; have f2 := zz 2
  dsimp at f0 f1 f2
  have B0 := Lib.hid b0
  clear zz b0 r0
  go_enter Tryd.func61, Tryd.ntmps61
  go_wp2
  refine bodyPost_ret (v := .tuple #[.slice (some ⟨W0.heap.size, 0, none⟩) 1 1, .bool true]) (by simp [results, Tryd.results61, go_sem]) rfl ?_
  exact ⟨⟨_, rfl, owS_1 W0 w.heap.size loW B0.out.size⟩, seqB B0.out (below_alloc W0 _)⟩
set_option maxHeartbeats 4000000 in
set_option maxRecDepth 100000 in
theorem tsw_5  : Calls Tryd.prog 61 #[.agg #[.int .i64 5, .string (mkL t), .int .i64 n, .int .i64 m, .slice a l c]] w (SwP w (some [saW])) := by
  have b0 := below_alloc w (.cells #[.int .i64 5, .string (mkL t), .int .i64 n, .int .i64 m, .slice a l c] 38)
  have r0 := heap_alloc_new w (.cells #[.int .i64 5, .string (mkL t), .int .i64 n, .int .i64 m, .slice a l c] 38)
  obtain ⟨W0, hW0⟩ : ∃ W0, w.alloc (.cells #[.int .i64 5, .string (mkL t), .int .i64 n, .int .i64 m, .slice a l c] 38) = W0 := ⟨_, rfl⟩
  rw [hW0] at b0 r0
  have zz := fun i => cell_of_row _ _ i _ _ _ r0
  have f0 := zz 0; have f1 := zz 1; have f2 := zz 2
  dsimp at f0 f1 f2
  have B0 := Lib.hid b0
  clear zz b0 r0
  go_enter Tryd.func61, Tryd.ntmps61
  go_wp2
  refine bodyPost_ret (v := .tuple #[.slice (some ⟨W0.heap.size, 0, none⟩) 1 1, .bool true]) (by simp [results, Tryd.results61, go_sem]) rfl ?_
  exact ⟨⟨_, rfl, owS_1 W0 w.heap.size saW B0.out.size⟩, seqB B0.out (below_alloc W0 _)⟩
set_option maxHeartbeats 4000000 in
set_option maxRecDepth 100000 in
theorem tsw_6  : Calls Tryd.prog 61 #[.agg #[.int .i64 6, .string (mkL t), .int .i64 n, .int .i64 m, .slice a l c]] w (SwP w (some [poW])) := by
  have b0 := below_alloc w (.cells #[.int .i64 6, .string (mkL t), .int .i64 n, .int .i64 m, .slice a l c] 38)
  have r0 := heap_alloc_new w (.cells #[.int .i64 6, .string (mkL t), .int .i64 n, .int .i64 m, .slice a l c] 38)
  obtain ⟨W0, hW0⟩ : ∃ W0, w.alloc (.cells #[.int .i64 6, .string (mkL t), .int .i64 n, .int .i64 m, .slice a l c] 38) = W0 := ⟨_, rfl⟩
  rw [hW0] at b0 r0
  have zz := fun i => cell_of_row _ _ i _ _ _ r0
  have f0 := zz 0; have f1 := zz 1; have f2 := zz 2
  dsimp at f0 f1 f2
  have B0 := Lib.hid b0
  clear zz b0 r0
  go_enter Tryd.func61, Tryd.ntmps61
  go_wp2
  refine bodyPost_ret (v := .tuple #[.slice (some ⟨W0.heap.size, 0, none⟩) 1 1, .bool true]) (by simp [results, Tryd.results61, go_sem]) rfl ?_
  exact ⟨⟨_, rfl, owS_1 W0 w.heap.size poW B0.out.size⟩, seqB B0.out (below_alloc W0 _)⟩
set_option maxHeartbeats 4000000 in
set_option maxRecDepth 100000 in
theorem tsw_no (k : Int) (h0 : (k == 0) = false) (h1 : (k == 1) = false) (h2 : (k == 2) = false) (h3 : (k == 3) = false) (h4 : (k == 4) = false) (h5 : (k == 5) = false) (h6 : (k == 6) = false) : Calls Tryd.prog 61 #[.agg #[.int .i64 k, .string (mkL t), .int .i64 n, .int .i64 m, .slice a l c]] w (SwP w none) := by
  have b0 := below_alloc w (.cells #[.int .i64 k, .string (mkL t), .int .i64 n, .int .i64 m, .slice a l c] 38)
  have r0 := heap_alloc_new w (.cells #[.int .i64 k, .string (mkL t), .int .i64 n, .int .i64 m, .slice a l c] 38)
  obtain ⟨W0, hW0⟩ : ∃ W0, w.alloc (.cells #[.int .i64 k, .string (mkL t), .int .i64 n, .int .i64 m, .slice a l c] 38) = W0 := ⟨_, rfl⟩
  rw [hW0] at b0 r0
  have zz := fun i => cell_of_row _ _ i _ _ _ r0
  have f0 := zz 0; have f1 := zz 1; have f2 := zz 2
  dsimp at f0 f1 f2
  have B0 := Lib.hid b0
  clear zz b0 r0
  go_enter Tryd.func61, Tryd.ntmps61
  go_wp2
  refine bodyPost_ret (v := .tuple #[.slice none 0 0, .bool false]) (by simp [results, Tryd.results61, go_sem]) rfl ?_
  exact ⟨⟨_, rfl, World.ownsRow_nil _ _ _ _⟩, B0.out⟩
end
end Go.Proofs.YtnpiooaiceegmaaDoor
set_option linter.unusedVariables false
set_option linter.unusedSimpArgs false
namespace Go.Proofs.YtnpiooaiceegmaaDoor
open Go.RowKit
set_option maxHeartbeats 8000000 in
set_option maxRecDepth 100000 in
theorem tsw_2 (t : List UInt8) (n m : Int) (a : Option Addr) (l c : Nat) (w : World) (hn : in64 n) (hm : in64 m) : Calls Tryd.prog 61 #[.agg #[.int .i64 2, .string (mkL t), .int .i64 n, .int .i64 m, .slice a l c]] w (SwP w (some [reW, decS n, decS m])) := by
  have b0 := below_alloc w (.cells #[.int .i64 2, .string (mkL t), .int .i64 n, .int .i64 m, .slice a l c] 38)
  have r0 := heap_alloc_new w (.cells #[.int .i64 2, .string (mkL t), .int .i64 n, .int .i64 m, .slice a l c] 38)
  obtain ⟨W0, hW0⟩ : ∃ W0, w.alloc (.cells #[.int .i64 2, .string (mkL t), .int .i64 n, .int .i64 m, .slice a l c] 38) = W0 := ⟨_, rfl⟩
  rw [hW0] at b0 r0
  have zz := fun i => cell_of_row _ _ i _ _ _ r0
  have f0 := zz 0; have f2 := zz 2; have f3 := zz 3
  dsimp at f0 f2 f3
  have B0 := Lib.hid b0
  have R0 := Lib.hid r0
  have D1 := Lib.hid (tdec_any n W0.drew hn.1 hn.2)
  have D2 := Lib.hid (fun w => tdec_any m w hm.1 hm.2)
  generalize decS n = dn at *
  generalize decS m = dm at *
  clear zz b0 r0 hn hm
  go_enter Tryd.func61, Tryd.ntmps61
  go_upto_region 7 with fail
  clear hW0 f0
  go_region_held3 (fun w' => w'.cell? ⟨w.heap.size, 2, none⟩ = some (.int .i64 n) ∧ w'.cell? ⟨w.heap.size, 3, none⟩ = some (.int .i64 m)) (first | exact ⟨f2, f3⟩ | exact ⟨f23, f33⟩ | exact ⟨f24, f34⟩ | exact ⟨(World.cell?_alloc_lt _ _ _ h4.out).trans f24, (World.cell?_alloc_lt _ _ _ h4.out).trans f34⟩ | go_keep)
    (first
      | (go_at_call 108
         with_reducible refine D1.out.mono ?_
         rintro e w3 ⟨rfl, hb3⟩
         have B3 := Lib.hid (seqB B0.out.drew hb3)
         have R3 := Lib.hid (blk_below (w := W0) R0.out (seqB (Below.refl _ _).drew hb3))
         have yy := fun i => cell_of_row _ _ i _ _ _ R3.out
         have f23 := yy 2
         have f33 := yy 3
         dsimp at f23 f33
         clear hb3 yy)
      | (go_at_call 108
         with_reducible refine (D2.out _).mono ?_
         rintro e w4 ⟨rfl, hb4⟩
         have B4 := Lib.hid (seqB B3.out hb4)
         have R4 := Lib.hid (blk_below R3.out hb4)
         have yy := fun i => cell_of_row _ _ i _ _ _ R4.out
         have f24 := yy 2
         have f34 := yy 3
         dsimp at f24 f34
         have h4 := Lib.hid (blk_lt R4.out)
         clear hb4 yy))
  all_goals
    go_wp2
    refine bodyPost_ret (v := .tuple #[.slice (some ⟨w4.heap.size, 0, none⟩) 3 3, .bool true]) (by simp [results, Tryd.results61, go_sem]) rfl ?_
    exact ⟨⟨_, rfl, owS_3 w4 w.heap.size reW dn dm B4.out.size⟩, seqB B4.out (below_alloc w4 _)⟩
end Go.Proofs.YtnpiooaiceegmaaDoor
set_option linter.unusedVariables false
set_option linter.unusedSimpArgs false
namespace Go.Proofs.YtnpiooaiceegmaaDoor
open Go.RowKit
def ofL (L : List (List UInt8)) (k : Nat) : List (List UInt8) := ofW :: (L.take k).map wdL
theorem ofL_succ (L : List (List UInt8)) (k : Nat) (h : k < L.length) : ofL L (k + 1) = ofL L k ++ [wdL (L.getD k [])] := by
  unfold ofL
  rw [List.take_succ_eq_append_getElem h, List.map_append, List.getD, List.getElem?_eq_getElem h]; rfl
theorem ofL_len (L : List (List UInt8)) (k : Nat) (h : k ≤ L.length) : (ofL L k).length = k + 1 := by
  unfold ofL; rw [List.length_cons, List.length_map, List.length_take]; omega
set_option maxHeartbeats 8000000 in
set_option maxRecDepth 100000 in
theorem tsw_3 (t : List UInt8) (n m : Int) (a : Option Addr) (l c : Nat) (w : World) (L : List (List UInt8)) (hL : L.length = l) (hl : l ≤ 100000) (hE : ∀ x, x ∈ L → x.length ≤ 300000) (hS : StI w a (L.map mkL)) :
    Calls Tryd.prog 61 #[.agg #[.int .i64 3, .string (mkL t), .int .i64 n, .int .i64 m, .slice a l c]] w (SwP w (some (ofW :: L.map wdL))) := by
  obtain ⟨i0, hi, hz0, hz1, hz2⟩ := info_parts infoTS
  have b0 := below_alloc w (.cells #[.int .i64 3, .string (mkL t), .int .i64 n, .int .i64 m, .slice a l c] 38)
  have r0 := heap_alloc_new w (.cells #[.int .i64 3, .string (mkL t), .int .i64 n, .int .i64 m, .slice a l c] 38)
  obtain ⟨W0, hW0⟩ : ∃ W0, w.alloc (.cells #[.int .i64 3, .string (mkL t), .int .i64 n, .int .i64 m, .slice a l c] 38) = W0 := ⟨_, rfl⟩
  rw [hW0] at b0 r0
  have o1 : owS (W0.alloc (.cells #[.string ⟨#[111, 102, 102, 101, 114]⟩] 9)) w.heap.size (.slice (some ⟨W0.heap.size, 0, none⟩) 1 1) (ofL L 0) := owS_1 W0 w.heap.size ofW b0.size
  have b1 := below_alloc W0 (.cells #[.string ⟨#[111, 102, 102, 101, 114]⟩] 9)
  have r1 := blk_below r0 b1
  have B1 := Lib.hid (seqB b0 b1)
  have O1 := Lib.hid o1
  have zz := fun i => cell_of_row _ _ i _ _ _ r0
  have f0 := zz 0
  have yy := fun i => cell_of_row _ _ i _ _ _ r1
  have f4 := yy 4
  dsimp at f0 f4
  have HL := Lib.hid hL
  have HE := Lib.hid hE
  have HS := Lib.hid hS
  obtain ⟨SP, hSP⟩ : ∃ SP, SwP w (some (ofW :: L.map wdL)) = SP := ⟨_, rfl⟩
  rw [hSP]
  have HSP := Lib.hid hSP
  clear zz yy b0 r0 o1 b1 r1 hL hE hS hSP
  go_enter Tryd.func61, Tryd.ntmps61
  go_upto_region 11 with fail
  obtain ⟨W1, hW1⟩ : ∃ W1, W0.alloc (.cells #[.string ⟨#[111, 102, 102, 101, 114]⟩] 9) = W1 := ⟨_, rfl⟩
  rw [hW1] at O1 B1
  clear f0 f4
  go_loopw [4, 33] (fun wv iv wr => ∃ (k : Nat) (a' : Option Addr) (c' : Nat), k ≤ l ∧ iv = .int .i64 (k : Int) ∧ wv = .slice a' (k + 1) c' ∧ Hid (owS wr w.heap.size (.slice a' (k + 1) c') (ofL L k)) ∧ Hid (Below w.heap.size w wr)) (fun _ iv _ => l - (intOf iv).toNat)
  case atStart => exact ⟨0, _, 1, Nat.zero_le _, rfl, rfl, by first | exact O1 | (rw [hW1]; exact O1), by first | exact B1 | (rw [hW1]; exact B1)⟩
  case round =>
    clear O1 B1 hW1 hW0
    obtain ⟨k, a', c', hk, rfl, rfl, HO, HB⟩ := hrel
    have NB := HB.out
    have hsz := NB.size
    have hown := HO.out
    unfold owS at hown
    have hcl := ofL_len L k (by rw [HL.out]; exact hk)
    rw [hcl] at hown
    by_cases hlt : k < l
    · have hk1 : (k : Int) < (l : Int) := by omega
      have hk0 : (0 : Int) ≤ k := by omega
      have hkL : k < L.length := by rw [HL.out]; exact hlt
      obtain ⟨b, off, rfl, hb0, d0⟩ := HS.out k (by rw [List.length_map]; exact hkL)
      have d := (NB.cell (p := ⟨b, off + k, none⟩) hb0).trans d0
      have hx : (L.map mkL).getD k ⟨#[]⟩ = mkL (L.getD k []) := by
        rw [List.getD, List.getElem?_map, List.getD, List.getElem?_eq_getElem hkL]; rfl
      rw [hx] at d
      have hxl : (L.getD k []).length ≤ 300000 := by
        rw [List.getD, List.getElem?_eq_getElem hkL]; exact HE.out _ (List.getElem_mem hkL)
      have HCS := Lib.hid (ofL_succ L k hkL)
      generalize L.getD k [] = x at *
      have TW := Lib.hid (fun w => tword_any x w (by omega))
      generalize ofL L k = Z at *
      generalize wdL x = wx at *
      clear hxl hx d0 hkL HO
      go_wp2_with (first
        | (go_at_call 46; refine (TW.out _).mono ?_; rintro e w3 ⟨rfl, hb3⟩; have hown3 : w3.ownsRow w.heap.size 9 1 (.slice a' (k + 1) c') (k + 1) _ := World.ownsRow.kept hown (row := none) ⟨hb3.os, hb3.tape, hb3.output, hb3.size, fun k hk _ => hb3.block k hk⟩ (by cases (Value.slice a' (k + 1) c').ownBlock <;> simp); have hb4 := seqB NB hb3; have hsz4 := hb4.size)
        | (at_builtin; refine wpList_append_own _ rfl _ _ 36 rfl w.heap.size 9 i0 _ 1 16 Tryd.underlying36 hi hz0 hz1 hz2 rfl (by decide) _ _ _ rfl (hown3.alloc _) ⟨w3.heap.size, 0, none⟩ 1 1 [.string (mkL wx)] rfl rfl ?g1 ?g2 ?g3 ?g4 ?g5 ?_))
      case g1 => intro j x hj; exact app_cells rfl hj
      case g2 => simp [Value.oneCell']
      case g3 => unfold maxLen; omega
      case g4 => omega
      case g5 => simp; omega
      intro v' w5 hown5 hgrow5 _
      have N5 := Lib.hid ((hb4.alloc hb4.size (.cells #[.string (mkL wx)] 9)).grown hgrow5 (by simp; omega) (fun j hj => (hown3.lt j hj).1))
      have O5 : owS w5 w.heap.size v' (ofL L (k + 1)) := by
        unfold owS
        rw [HCS.out, List.length_append, List.map_append, hcl]
        exact hown5
      obtain ⟨a5, c5, e5⟩ := owS_form O5 (n := k + 1 + 1) (by rw [ofL_len L (k + 1) (by rw [HL.out]; exact hlt)])
      subst e5
      have O5 := Lib.hid O5
      clear hown5 hgrow5 hown3 hown
      go_wp2
      go_roundw
      case rel => exact ⟨k + 1, a5, c5, by omega, by go_num, rfl, O5, N5⟩
      case measure => (simp [intOf]; try omega)
    · obtain rfl : k = l := by omega
      have hnn : ¬ (k : Int) < (k : Int) := by omega
      have e : ofL L k = ofW :: L.map wdL := by unfold ofL; rw [List.take_of_length_le (by rw [HL.out]; exact Nat.le_refl _)]
      rw [e] at HO
      clear hown e
      go_wp2
      rw [← HSP.out]
      exact ⟨⟨_, rfl, HO.out⟩, NB⟩
end Go.Proofs.YtnpiooaiceegmaaDoor
