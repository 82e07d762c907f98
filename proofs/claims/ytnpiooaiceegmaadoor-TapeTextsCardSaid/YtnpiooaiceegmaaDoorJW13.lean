/-
  Joined: In0 In1 In2 In3 Tp1 In4 In5 Tp2 In6 In7 In8 In9.
-/
import Derived.Test.YtnpiooaiceegmaaDoorJW04
import Derived.Test.YtnpiooaiceegmaaDoorJW06
import Derived.Test.YtnpiooaiceegmaaDoorJW07
import Derived.Test.YtnpiooaiceegmaaDoorJW08
import Derived.Test.YtnpiooaiceegmaaDoorJW09
import Derived.Test.YtnpiooaiceegmaaDoorJW12
import Derived.Deep.RegionHeld3
import Derived.BigQuiet
import Derived.WalkMore
import Derived.ScopeJumps
set_option linter.unusedVariables false
set_option linter.unusedSimpArgs false
set_option maxRecDepth 100000
set_option linter.unusedVariables false
set_option linter.unusedSimpArgs false
namespace Go.Proofs.YtnpiooaiceegmaaDoor
open Go.RowKit
/-- An input, by what it holds. -/
structure IS where
  most : Int
  wait : List UInt8
  pas : Bool
  pb : List UInt8
  ct : Nat
  mt : Nat
def u8L (l : List UInt8) : List Value := l.map fun b => Value.int .u8 (b.toNat : Int)
/-- A row of bytes of the object's own. -/
def OwU (w : World) (v : Value) (l : List UInt8) : Prop := w.ownsRow 0 5 1 v l.length (u8L l)
theorem OwU.below {w w' : World} {v : Value} {l : List UInt8} (h : OwU w v l) (hb : Below w.heap.size w w') : OwU w' v l := by
  refine h.kept (row := none) ⟨hb.os, hb.tape, hb.output, hb.size, fun k hk _ => hb.block k hk⟩ ?_
  cases v.ownBlock <;> simp
/-- The object's cells. -/
def inC (s : IS) (bv : Value) : Array Value := #[.int .i64 s.most, .string (mkL s.wait), .bool s.pas, bv, .int .i64 (s.ct : Int), .int .i64 (s.mt : Int)]
section
variable {S : Nat → Prop} {p q B : Nat} {s : IS} {K : List Ky} {w w' : World}
end
end Go.Proofs.YtnpiooaiceegmaaDoor
set_option linter.unusedVariables false
set_option linter.unusedSimpArgs false
namespace Go.Proofs.YtnpiooaiceegmaaDoor
open Go.RowKit
/-- The tables lie in blocks that stay. -/
structure US (S : Nat → Prop) (w : World) : Prop where
  u : UT w
  a : S 4
  b : S 5
theorem US.kept {S : Nat → Prop} {w w' : World} (h : US S w) (k : KeptM S w w') : US S w' := by
  have hc : ∀ b, S b → ∀ i, w'.cell? ⟨b, i, none⟩ = w.cell? ⟨b, i, none⟩ := fun b hb i => by unfold World.cell?; rw [k.block b hb]
  obtain ⟨⟨u1, u2⟩, u3, u4⟩ := h.u
  exact ⟨⟨⟨fun c hc' => (hc _ h.a _).trans (u1 c hc'), fun i hi => ⟨(hc _ h.b _).trans (u2 i hi).1, (hc _ h.b _).trans (u2 i hi).2⟩⟩, Nat.lt_of_lt_of_le u3 k.size, Nat.lt_of_lt_of_le u4 k.size⟩, h.a, h.b⟩
theorem KeptM.refl (S : Nat → Prop) (w : World) : KeptM S w w := ⟨rfl, rfl, rfl, Nat.le_refl _, fun _ _ => rfl⟩
section
variable {S : Nat → Prop} {p q B : Nat} {s : IS} {K : List Ky} {w w' : World}
theorem idx_run (l : List UInt8) (k : Nat) (hk : k < l.length) (w : World) : (Instr.index 9 (.string (mkL l)) (.int .i64 (k : Int))).run Tryd.prog w = .ok (.int .u8 ((l.getD k 0).toNat : Int)) w := by
  rw [run_index_string (P := Tryd.prog) w 9 (mkL l) .i64 (k : Int) Tryd.underlying9, dif_pos ⟨by omega, by rw [mkL_size]; omega⟩]
  rw [List.getD, List.getElem?_eq_getElem hk]
  rfl
theorem mkL_ne {a b : List UInt8} (h : a ≠ b) : ¬ mkL a = mkL b := fun e => h (by
  have := congrArg ByteArray.data e
  simpa [mkL] using this)
theorem mkL_toList (l : List UInt8) : (mkL l).toList = l := by rw [ByteArray.toList_eq]; simp [mkL]
theorem bq_ne {a b : List UInt8} (h : a ≠ b) : ((mkL a).toList == b) = false := by rw [mkL_toList]; simpa using h
end
end Go.Proofs.YtnpiooaiceegmaaDoor
set_option linter.unusedVariables false
set_option linter.unusedSimpArgs false
namespace Go.Proofs.YtnpiooaiceegmaaDoor
open Go.RowKit
section
variable {S : Nat → Prop} {p q B : Nat} {s : IS} {K : List Ky} {w w' : World}
end
end Go.Proofs.YtnpiooaiceegmaaDoor
set_option linter.unusedVariables false
set_option linter.unusedSimpArgs false
namespace Go.Proofs.YtnpiooaiceegmaaDoor
open Go.RowKit
theorem mkL_cat (a b : List UInt8) : mkL a ++ mkL b = mkL (a ++ b) := by
  apply ByteArray.ext
  simp [mkL]
section
variable {S : Nat → Prop} {p q B : Nat} {s : IS} {K : List Ky} {w w' : World}
end
end Go.Proofs.YtnpiooaiceegmaaDoor
set_option linter.unusedVariables false
set_option linter.unusedSimpArgs false
namespace Go.Proofs.YtnpiooaiceegmaaDoor
open Go.RowKit
set_option maxHeartbeats 2000000 in
set_option maxRecDepth 100000 in
theorem tbyte_any (B b : Nat) (bs : List Value) (c : Int) (w : World) (h : IsBld B b bs w) (hlen : bs.length + 1 ≤ 140737488355328) (hBw : B ≤ w.heap.size) :
    Calls Tryd.prog 105 #[.pointer (some ⟨b, 0, none⟩), .int .u8 c] w fun e w' => e = .returned .nilIface ∧ BldAt B b (.pointer (some ⟨b, 0, none⟩)) (bs ++ [.int .u8 c]) w' ∧ Below B w w' := by
  obtain ⟨i0, hi, hz0, hz1, hz2⟩ := info_parts infoU8
  have C := Lib.hid (bcheck_any B b bs w h)
  clear h
  go_enter Tryd.func105, Tryd.ntmps105
  go_wp2_with (go_at_call 107; refine C.out.mono ?_)
  rintro e w1 ⟨rfl, ⟨hB, v, hbk0, hown0, hne⟩, hb0⟩
  have BA := below_alloc w1 (.cells #[.int .u8 c] 5)
  have hbk := blk_below hbk0 BA
  have hb1 := hb0.trans (BA.mono (show B ≤ w1.heap.size by have := hb0.size; omega))
  have hown := hown0.alloc (.cells #[.int .u8 c] 5)
  have hnew : ∀ j x, ([Value.int .u8 c] : List Value)[j]? = some x → (w1.alloc (.cells #[.int .u8 c] 5)).cell? ((⟨w1.heap.size, 0, none⟩ : Addr).add j) = some x := fun j x hj => app_cells rfl hj
  have hsz1 : B ≤ (w1.alloc (.cells #[.int .u8 c] 5)).heap.size := by have := hb1.size; omega
  have e1 := Lib.cell_of_heap hbk0 1
  dsimp at e1
  clear hbk0 hown0 hb0 BA
  obtain ⟨g, hg⟩ : ∃ g, w1.heap.size = g := ⟨_, rfl⟩
  obtain ⟨W, hW⟩ : ∃ W, w1.alloc (.cells #[.int .u8 c] 5) = W := ⟨_, rfl⟩
  rw [hW, hg] at hnew
  rw [hW] at hbk hb1 hown hsz1
  have c0 := Lib.cell_of_heap hbk 0; have c1 := Lib.cell_of_heap hbk 1
  dsimp at c0 c1
  go_wp2_with (at_builtin; refine wpList_append_own _ rfl _ _ 95 rfl B 5 i0 (.int .u8 0) 1 1 Tryd.underlying95 hi hz0 hz1 hz2 rfl (by decide) _ _ _ rfl hown ⟨g, 0, none⟩ 1 1 [.int .u8 c] rfl rfl hnew (by simp [Value.oneCell']) ?g3 ?g4 ?g5 ?_)
  case g3 => unfold maxLen; omega
  case g4 => omega
  case g5 => exact hsz1
  intro v' w2 hown' hgrow _
  have hlt := blk_lt hbk
  have hb2 : w2.heap[b]? = some (.cells #[.pointer (some ⟨b, 0, none⟩), v] 103 (0, 0)) := (hgrow.block b hlt (fun e => hne e.symm)).trans hbk
  have d0 := Lib.cell_of_heap hb2 0
  have d1 := Lib.cell_of_heap hb2 1
  have f1 : w2.frozen? ⟨b, 1, none⟩ = false := Lib.frozen_of_heap hb2 1
  dsimp at d0 d1
  obtain ⟨ao, n', cap, rfl⟩ : ∃ ao n' cap, v' = .slice ao n' cap := by
    rcases hown'.2 with ⟨hv, _⟩ | ⟨g, cap, cur, hv, _⟩
    · exact ⟨_, _, _, hv⟩
    · exact ⟨_, _, _, hv⟩
  go_wp2
  go_ret
  refine ⟨rfl, ?_, ?_⟩
  · exact Lib.BuilderAt.put (T := 103) (e := 5) hB hb2 (bs' := bs ++ [.int .u8 c]) (by simpa using hown') (by decide)
  · exact (hb1.grown hgrow hsz1 (fun k hk => (hown.lt k hk).1)).setCell (p := ⟨b, 1, none⟩) hB _
/-- A byte in a word. -/
def wdP (b : UInt8) : Prop := 33 ≤ b.toNat ∧ b.toNat ≤ 126 ∧ b.toNat ≠ 92
instance (b : UInt8) : Decidable (wdP b) := by unfold wdP; infer_instance
def wdB (b : UInt8) : List UInt8 := if wdP b then [b] else 92 :: hexN (b.toNat : Int) 2
def wdL (s : List UInt8) : List UInt8 := 46 :: s.flatMap wdB
theorem wdB_len (b : UInt8) : (wdB b).length ≤ 3 := by
  unfold wdB
  split
  · rw [List.length_singleton]; omega
  · have := (hex2 b).1
    rw [List.length_cons, this]; decide
theorem wdL_len (s : List UInt8) : (wdL s).length ≤ 1 + 3 * s.length := by
  unfold wdL
  rw [List.length_cons]
  have : (s.flatMap wdB).length ≤ 3 * s.length := by
    induction s with
    | nil => exact Nat.zero_le _
    | cons x s ih => rw [List.flatMap_cons, List.length_append, List.length_cons]; have := wdB_len x; omega
  omega
theorem wdL_take (s : List UInt8) (k : Nat) (h : k < s.length) : wdL (s.take (k + 1)) = wdL (s.take k) ++ wdB (s.getD k 0) := by
  unfold wdL
  rw [List.take_succ_eq_append_getElem h, List.flatMap_append, List.getD, List.getElem?_eq_getElem h, List.flatMap_cons, List.flatMap_nil, List.append_nil]; rfl
set_option maxHeartbeats 4000000 in
set_option maxRecDepth 100000 in
theorem tword_any (s : List UInt8) (w : World) (hs : s.length ≤ 1000000) : Calls Tryd.prog 46 #[.string (mkL s)] w fun e w' => e = .returned (.string (mkL (wdL s))) ∧ Below w.heap.size w w' := by
  obtain ⟨n, hn⟩ : ∃ n, s.length = n := ⟨_, rfl⟩
  have hz : (mkL s).size = n := by rw [mkL_size, hn]
  have HN := Lib.hid hn
  have I0 := Lib.hid (kbld_new w)
  have B1 := below_alloc w (.cells #[.pointer none, .slice none 0 0] 103)
  have W1 := Lib.hid (fun (B : Nat) (w : World) h hB => bwrite_any B B [] ⟨#[46]⟩ w h (by show 0 + 1 ≤ _; omega) hB)
  have HE : Hid (([] : List Value) ++ Lib.strCells ⟨#[46]⟩ = Lib.byteCells (wdL (s.take 0))) := Lib.hid (by rw [List.take_zero]; exact strC [46])
  rw [hn] at hs
  clear hn
  go_enter Tryd.func46, Tryd.ntmps46
  go_upto_region 3 with (go_at_call 48; refine (W1.out _ _ I0.out B1.size).mono ?_; rintro e w2 ⟨rfl, hI2, hb2⟩; have N2 := B1.trans hb2)
  rw [HE.out] at hI2
  go_upto_region 4 with fail
  go_loopw [4] (fun iv wr => ∃ k : Nat, k ≤ n ∧ iv = .int .i64 (k : Int) ∧ Hid (IsBld w.heap.size w.heap.size (Lib.byteCells (wdL (s.take k))) wr) ∧ Below w.heap.size w wr) (fun iv _ => n - (intOf iv).toNat)
  case atStart => exact ⟨0, Nat.zero_le _, rfl, Lib.hid (Or.inr hI2), N2⟩
  case round =>
    obtain ⟨k, hk, rfl, hI, hb⟩ := hrel
    have hPw : w.heap.size ≤ wr.heap.size := hb.size
    have hlen : (Lib.byteCells (wdL (s.take k))).length ≤ 1 + 3 * k := by
      rw [Lib.byteCells_length]; have := wdL_len (s.take k); rw [List.length_take] at this; omega
    by_cases hlt : k < n
    · have hkl : k < s.length := by rw [HN.out]; exact hlt
      have hk1 : (k : Int) < n := by omega
      have hk0 : (0 : Int) ≤ k := by omega
      have ix := fun w => idx_run s k hkl w
      have hst := wdL_take s k hkl
      generalize s.getD k 0 = u at *
      have hu := u.toNat_lt
      by_cases hp : wdP u
      · have hcell : Hid (Lib.byteCells (wdL (s.take (k + 1))) = Lib.byteCells (wdL (s.take k)) ++ [.int .u8 (u.toNat : Int)]) := Lib.hid (by rw [hst, Lib.byteCells_append]; unfold wdB; rw [if_pos hp]; rfl)
        obtain ⟨h33, h126, h92⟩ := hp
        have WB := Lib.hid (fun (w' : World) h2 hB => tbyte_any w.heap.size w.heap.size (Lib.byteCells (wdL (s.take k))) (u.toNat : Int) w' h2 (by omega) hB)
        have g33 : (33 : Int) ≤ (u.toNat : Int) := by omega
        have g126 : (u.toNat : Int) ≤ 126 := by omega
        have g92 : ((u.toNat : Int) == 92) = false := by rw [beq_eq_false_iff_ne]; omega
        clear hst hkl h33 h126 h92 hlen hu
        generalize (u.toNat : Int) = y at *
        generalize Lib.byteCells (wdL (s.take k)) = bs at *
        go_wp2_with (go_at_call 105; refine (WB.out _ hI.out hPw).mono ?_; rintro e w4 ⟨rfl, hI4, hb4⟩; have N4 := hb.trans hb4)
        go_roundw
        case rel => exact ⟨k + 1, by omega, by go_num, Lib.hid (Or.inr (by rw [hcell.out]; exact hI4)), N4⟩
        case measure => (simp [intOf]; try omega)
      · have H : ∀ w, Calls Tryd.prog 106 #[.int .i64 (u.toNat : Int), .int .i64 2] w fun e w' => e = .returned (.string (mkS (hexN (u.toNat : Int) 2))) ∧ Below w.heap.size w w' := fun w => khex2 (u.toNat : Int) w (by omega) (by omega)
        have hl2 := (hex2 u).1
        have hcell : Hid (Lib.byteCells (wdL (s.take (k + 1))) = Lib.byteCells (wdL (s.take k)) ++ [.int .u8 92] ++ Lib.strCells (mkS (hexN (u.toNat : Int) 2))) := Lib.hid (by rw [hst, Lib.byteCells_append, strC]; unfold wdB; rw [if_neg hp, List.append_assoc]; rfl)
        have hus : (mkS (hexN (u.toNat : Int) 2)).size ≤ 2 := by rw [mkS_size]; omega
        generalize mkS (hexN (u.toNat : Int) 2) = hx at *
        have WB := Lib.hid (fun (w' : World) h2 hB => tbyte_any w.heap.size w.heap.size (Lib.byteCells (wdL (s.take k))) 92 w' h2 (by omega) hB)
        have WS := Lib.hid (fun (w' : World) h2 hB => bwrite_any w.heap.size w.heap.size (Lib.byteCells (wdL (s.take k)) ++ [.int .u8 92]) hx w' h2 (by rw [List.length_append, List.length_singleton]; omega) hB)
        have hc : ¬ (33 : Int) ≤ (u.toNat : Int) ∨ ((33 : Int) ≤ (u.toNat : Int) ∧ ¬ (u.toNat : Int) ≤ 126) ∨ ((33 : Int) ≤ (u.toNat : Int) ∧ (u.toNat : Int) ≤ 126 ∧ (u.toNat : Int) = 92) := by
          unfold wdP at hp; omega
        have hu' : (u.toNat : Int) < 256 := by omega
        have hu0 : (0 : Int) ≤ (u.toNat : Int) := by omega
        replace H := Lib.hid H
        clear hst hkl hlen hus hl2 hp hu
        generalize (u.toNat : Int) = y at *
        generalize Lib.byteCells (wdL (s.take k)) = bs at *
        rcases hc with g | ⟨g, g2⟩ | ⟨g, g2, g3⟩
        all_goals
          try subst g3
          go_wp2_with (first
            | (go_at_call 105; refine (WB.out _ hI.out hPw).mono ?_; rintro e w4 ⟨rfl, hI4, hb4⟩; have I4 := Lib.hid (Or.inr hI4 : IsBld w.heap.size w.heap.size _ w4); have N4 := hb.trans hb4; have hP4 := N4.size; clear hI4 hb4)
            | (go_at_call 106; refine (H.out _).mono ?_; rintro e w5 ⟨rfl, hb5⟩; have I5 := Lib.hid (kbld_below I4.out hb5); have N5 := N4.trans (hb5.mono hP4); have hP5 := N5.size; clear hb5)
            | (go_at_call 48; refine (WS.out _ I5.out hP5).mono ?_; rintro e w6 ⟨rfl, hI6, hb6⟩; have N6 := N5.trans hb6))
          go_roundw
          case rel => exact ⟨k + 1, by omega, by go_num, Lib.hid (Or.inr (by rw [hcell.out]; exact hI6)), N6⟩
          case measure => (simp [intOf]; try omega)
    · obtain rfl : k = n := by omega
      have hnn : ¬ (k : Int) < (k : Int) := by omega
      have htk : s.take k = s := List.take_of_length_le (by rw [HN.out]; exact Nat.le_refl _)
      rw [htk] at hI hlen
      have ST := Lib.hid (fun (B : Nat) (w : World) h hB => Tryd.Builder_String_any B B (wdL s) w h hB)
      have hmk : Hid ((⟨(wdL s).toArray⟩ : ByteArray) = mkL (wdL s)) := Lib.hid rfl
      generalize hls : wdL s = ls at *
      have HLS := Lib.hid hls
      clear hlen htk hls
      go_wp2_with (go_at_call 51; refine (ST.out _ _ hI.out hPw).mono ?_; rintro e w5 ⟨rfl, hb5⟩; rw [hmk.out])
      go_ret
      exact ⟨by first | rfl | (rw [HLS.out]; rfl), hb.trans hb5⟩
end Go.Proofs.YtnpiooaiceegmaaDoor
set_option linter.unusedVariables false
set_option linter.unusedSimpArgs false
namespace Go.Proofs.YtnpiooaiceegmaaDoor
open Go.RowKit
section
variable {S : Nat → Prop} {p q B : Nat} {s : IS} {K : List Ky} {w w' : World}
end
end Go.Proofs.YtnpiooaiceegmaaDoor
set_option linter.unusedVariables false
set_option linter.unusedSimpArgs false
namespace Go.Proofs.YtnpiooaiceegmaaDoor
open Go.RowKit
section
variable {S : Nat → Prop} {p q B : Nat} {s : IS} {K : List Ky} {w w' : World}
end
end Go.Proofs.YtnpiooaiceegmaaDoor
set_option linter.unusedVariables false
set_option linter.unusedSimpArgs false
namespace Go.Proofs.YtnpiooaiceegmaaDoor
open Go.RowKit
set_option maxHeartbeats 4000000 in
set_option maxRecDepth 100000 in
theorem rword_ref (s : List UInt8) (w : World) (hs : s.length ≤ 1000000) : Calls Tryd.prog 54 #[.string (mkL s)] w fun e w' => e = .returned (.string (mkL (wdL s))) ∧ w = w' := by
  obtain ⟨n, hn⟩ : ∃ n, s.length = n := ⟨_, rfl⟩
  have hz : (mkL s).size = n := by rw [mkL_size, hn]
  have HN := Lib.hid hn
  obtain ⟨R, hR⟩ : ∃ R, wdL s = R := ⟨_, rfl⟩
  rw [hR]
  have HR := Lib.hid hR
  rw [hn] at hs
  clear hn hR
  go_enter Tryd.func54, Tryd.ntmps54
  go_upto_region 3 with fail
  go_loopw [3, 4] (fun ov iv wr => ∃ (k : Nat) (L : List UInt8), k ≤ n ∧ iv = .int .i64 (k : Int) ∧ ov = .string (mkL L) ∧ Hid (wdL (s.take k) = L) ∧ w = wr) (fun _ iv _ => n - (intOf iv).toNat)
  case atStart => exact ⟨0, [46], Nat.zero_le _, rfl, rfl, Lib.hid rfl, rfl⟩
  case round =>
    obtain ⟨k, L, hk, rfl, rfl, HL, rfl⟩ := hrel
    have hlen : L.length ≤ 1 + 3 * k := by
      rw [← HL.out]; have := wdL_len (s.take k); rw [List.length_take] at this; omega
    by_cases hlt : k < n
    · have hkl : k < s.length := by rw [HN.out]; exact hlt
      have hk1 : (k : Int) < n := by omega
      have hk0 : (0 : Int) ≤ k := by omega
      have hk2 : (k : Int) + 1 ≤ n := by omega
      have ix := fun w => idx_run s k hkl w
      have hst := wdL_take s k hkl
      rw [HL.out] at hst
      have hx : (mkL s).extract k (k + 1) = mkL [s.getD k 0] := by
        rw [mkL_ext, Nat.add_sub_cancel_left, List.drop_eq_getElem_cons hkl, List.getD, List.getElem?_eq_getElem hkl]
        rfl
      generalize s.getD k 0 = u at *
      have hu := u.toNat_lt
      have z1 : (mkL L).size = L.length := mkL_size L
      by_cases hp : wdP u
      · have hst' : wdL (s.take (k + 1)) = L ++ [u] := by rw [hst]; unfold wdB; rw [if_pos hp]
        have HS := Lib.hid hst'
        obtain ⟨h33, h126, h92⟩ := hp
        have g33 : (33 : Int) ≤ (u.toNat : Int) := by omega
        have g126 : (u.toNat : Int) ≤ 126 := by omega
        have g92 : ((u.toNat : Int) == 92) = false := by rw [beq_eq_false_iff_ne]; omega
        have zc := mkL_cat L [u]
        have z2 : (mkL [u]).size = 1 := mkL_size _
        have hs9 : ¬ 9223372036854775807 < L.length + 1 := by omega
        clear hst hst' hkl h33 h126 h92 hu
        generalize (u.toNat : Int) = y at *
        generalize mkL [u] = mu at *
        go_wp2
        go_roundw
        case rel => exact ⟨k + 1, L ++ [u], by omega, by go_num, by first | rfl | rw [zc], HS, by first | rfl | trivial⟩
        case measure => (simp [intOf]; try omega)
      · have H := Lib.hid (fun w => rhex2 (u.toNat : Int) w (by omega) (by omega))
        have hl2 := (hex2 u).1
        have hst' : wdL (s.take (k + 1)) = L ++ 92 :: hexN (u.toNat : Int) 2 := by rw [hst]; unfold wdB; rw [if_neg hp]
        have HS := Lib.hid hst'
        have hc : ¬ (33 : Int) ≤ (u.toNat : Int) ∨ ((33 : Int) ≤ (u.toNat : Int) ∧ ¬ (u.toNat : Int) ≤ 126) ∨ ((33 : Int) ≤ (u.toNat : Int) ∧ (u.toNat : Int) ≤ 126 ∧ (u.toNat : Int) = 92) := by
          unfold wdP at hp; omega
        have hu' : (u.toNat : Int) < 256 := by omega
        have hu0 : (0 : Int) ≤ (u.toNat : Int) := by omega
        generalize hexN (u.toNat : Int) 2 = X at *
        have zc : mkL L ++ ⟨#[92]⟩ = mkL (L ++ [92]) := mkL_cat L [92]
        have zd : mkL (L ++ [92]) ++ mkS X = mkL (L ++ 92 :: X) := by
          rw [show mkS X = mkL X from rfl, mkL_cat, List.append_assoc]; rfl
        have z2 : (⟨#[92]⟩ : ByteArray).size = 1 := rfl
        have z3 : (mkL (L ++ [92])).size = L.length + 1 := by rw [mkL_size, List.length_append]; rfl
        have z4 : (mkS X).size = 2 := by rw [mkS_size, hl2]
        have hs9 : ¬ 9223372036854775807 < L.length + 1 := by omega
        have hs8 : ¬ 9223372036854775807 < L.length + 1 + 2 := by omega
        clear hst hst' hkl hl2 hp hu hx
        generalize (u.toNat : Int) = y at *
        generalize mkS X = mx at *
        rcases hc with g | ⟨g, g2⟩ | ⟨g, g2, g3⟩
        all_goals
          try subst g3
          go_wp2_with (go_at_call 110; refine (H.out _).mono ?_; rintro e w4 ⟨rfl, rfl⟩)
          go_roundw
          case rel => exact ⟨k + 1, L ++ 92 :: X, by omega, by go_num, by first | rfl | rw [zc, zd] | rw [zd], HS, by first | rfl | trivial⟩
          case measure => (simp [intOf]; try omega)
    · obtain rfl : k = n := by omega
      have hnn : ¬ (k : Int) < (k : Int) := by omega
      have htk : s.take k = s := List.take_of_length_le (by rw [HN.out]; exact Nat.le_refl _)
      have hh := HL.out
      rw [htk, HR.out] at hh
      subst hh
      clear htk
      go_wp2
      go_ret
      exact ⟨rfl, rfl⟩
end Go.Proofs.YtnpiooaiceegmaaDoor
set_option linter.unusedVariables false
set_option linter.unusedSimpArgs false
namespace Go.Proofs.YtnpiooaiceegmaaDoor
open Go.RowKit
section
variable {S : Nat → Prop} {p q B : Nat} {s : IS} {K : List Ky} {w w' : World}
end
end Go.Proofs.YtnpiooaiceegmaaDoor
set_option linter.unusedVariables false
set_option linter.unusedSimpArgs false
namespace Go.Proofs.YtnpiooaiceegmaaDoor
open Go.RowKit
/-- What may wait. -/
def WOk (l : List UInt8) : Prop := l = [27] ∨ l = [27, 79] ∨ (∃ g, l = 27 :: 91 :: g ∧ g.length ≤ 4) ∨ (l ≠ [] ∧ l.getD 0 0 ≠ 27 ∧ l.length ≤ 3)
section
variable {S : Nat → Prop} {p q B : Nat} {s : IS} {K : List Ky} {w w' : World}
end
end Go.Proofs.YtnpiooaiceegmaaDoor
set_option linter.unusedVariables false
set_option linter.unusedSimpArgs false
namespace Go.Proofs.YtnpiooaiceegmaaDoor
open Go.RowKit
section
variable {S : Nat → Prop} {p q B : Nat} {s : IS} {K : List Ky} {w w' : World}
end
end Go.Proofs.YtnpiooaiceegmaaDoor
set_option linter.unusedVariables false
set_option linter.unusedSimpArgs false
namespace Go.Proofs.YtnpiooaiceegmaaDoor
open Go.RowKit
section
variable {S : Nat → Prop} {p q B : Nat} {s : IS} {K : List Ky} {w w' : World}
end
end Go.Proofs.YtnpiooaiceegmaaDoor
