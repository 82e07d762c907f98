/-
  Keys: what a paste is named.
-/
import Derived.Test.YtdifkjmpdmlobaaDoorKy5
import Derived.Test.YtdifkjmpdmlobaaDoorMk
import Derived.Deep.Cut
set_option linter.unusedVariables false
set_option linter.unusedSimpArgs false
namespace Go.Proofs.YtdifkjmpdmlobaaDoor
set_option maxRecDepth 100000
open Go.RowKit
theorem kgrown {w w' : World} (h : Below w.heap.size w w') : w.grownBy w' none := ⟨h.os, h.tape, h.output, h.size, fun k hk _ => h.block k hk⟩
theorem kown_below {w w' : World} {base : Nat} {e : TypeId} {size : Nat} {v : Value} {n : Nat} {xs : List Value} (h : w.ownsRow base e size v n xs) (hb : Below w.heap.size w w') : w'.ownsRow base e size v n xs :=
  h.kept (kgrown hb) (by cases hv : v.ownBlock <;> simp)
set_option maxRecDepth 100000 in
set_option maxHeartbeats 2000000 in
theorem kbld_below {B b : Nat} {bs : List Value} {w w' : World} (h : IsBld B b bs w) (hb : Below w.heap.size w w') : IsBld B b bs w' := by
  rcases h with ⟨hB, v, h1, h2, h3⟩ | ⟨hB, v, h1, h2, h3⟩
  · exact Or.inl ⟨hB, v, blk_below h1 hb, kown_below h2 hb, h3⟩
  · exact Or.inr ⟨hB, v, blk_below h1 hb, kown_below h2 hb, h3⟩
theorem kbld_new (w : World) : IsBld w.heap.size w.heap.size [] (w.alloc (.cells #[.pointer none, .slice none 0 0] 185)) :=
  Or.inl ⟨Nat.le_refl _, _, heap_alloc_new w _, World.ownsRow_nil _ _ _ _, by simp [Value.ownBlock]⟩
theorem hx2_snoc (l : List UInt8) (b : UInt8) : hx2 (l ++ [b]) = hx2 l ++ hexN (b.toNat : Int) 2 := by unfold hx2; rw [List.flatMap_append]; simp
theorem strC (l : List UInt8) : Lib.strCells (mkS l) = Lib.byteCells l := by unfold Lib.strCells mkS Lib.byteCells; simp
set_option maxHeartbeats 4000000 in
set_option maxRecDepth 100000 in
theorem kpaste_any (kind v : Int) (t : ByteArray) (c : Bool) (w : World) (ht : t.size ≤ 1000000) : Calls Tryd.prog 123 #[.agg #[.int .i64 kind, .int .i64 v, .string t, .bool c]] w fun e w' => e = .returned (.string (mkS (psN t.data.toList c))) ∧ Below w.heap.size w w' := by
  have B0 := below_alloc w (.cells #[.int .i64 kind, .int .i64 v, .string t, .bool c] 107)
  have Q0 := heap_alloc_new w (.cells #[.int .i64 kind, .int .i64 v, .string t, .bool c] 107)
  obtain ⟨W0, hW0⟩ : ∃ W0, w.alloc (.cells #[.int .i64 kind, .int .i64 v, .string t, .bool c] 107) = W0 := ⟨_, rfl⟩
  rw [hW0] at B0 Q0
  have I0 := Lib.hid (kbld_new W0)
  have B1 := below_alloc W0 (.cells #[.pointer none, .slice none 0 0] 185)
  have W1 := Lib.hid (fun (B : Nat) (w : World) h hB => bwrite_any B B [] ⟨#[80, 45]⟩ w h (by show 0 + 2 ≤ _; omega) hB)
  have HE : Hid (([] : List Value) ++ Lib.strCells ⟨#[80, 45]⟩ = Lib.byteCells (80 :: 45 :: hx2 (t.data.toList.take 0))) := Lib.hid (by rw [List.take_zero]; exact strC [80, 45])
  have HQ := Lib.hid Q0; clear Q0
  have HB := Lib.hid B0; clear B0
  go_enter Tryd.func123, Tryd.ntmps123
  go_upto_region 1 with fail
  clear hW0
  go_wp2_with (first
    | (go_at_call 134; refine (W1.out _ _ I0.out B1.size).mono ?_; rintro e w2 ⟨rfl, hI2, hb2⟩; have N2 := B1.trans hb2))
  rw [HE.out] at hI2
  go_loopw [4] (fun iv wr => ∃ k : Nat, k ≤ t.size ∧ iv = .int .i64 (k : Int) ∧ Hid (IsBld W0.heap.size W0.heap.size (Lib.byteCells (80 :: 45 :: hx2 (t.data.toList.take k))) wr) ∧ Below W0.heap.size W0 wr) (fun iv _ => t.size - (intOf iv).toNat)
  case atStart => exact ⟨0, Nat.zero_le _, rfl, Lib.hid (Or.inr hI2), N2⟩
  case round =>
    obtain ⟨k, hk, rfl, hI, hb⟩ := hrel
    have q := blk_below HQ.out hb
    have hPw : W0.heap.size ≤ wr.heap.size := hb.size
    have ql := blk_lt q
    have y := fun i => cell_of_row _ _ i _ _ _ q; have y2 := y 2; have y3 := y 3; clear y; dsimp at y2 y3
    have hlen : (Lib.byteCells (80 :: 45 :: hx2 (t.data.toList.take k))).length ≤ 2 + 2 * k := by
      rw [Lib.byteCells_length]; simp only [List.length_cons, hx2_len]; have := List.length_take_le k t.data.toList; omega
    clear q
    by_cases hlt : k < t.size
    · have hk1 : (k : Int) < t.size := by omega
      have hk0 : (0 : Int) ≤ k := by omega
      have H : ∀ w, Calls Tryd.prog 133 #[.int .i64 (wrap64 ((t[k]).toNat : Int)), .int .i64 2] w fun e w' => e = .returned (.string (mkS (hexN ((t[k]).toNat : Int) 2))) ∧ Below w.heap.size w w' := fun w => by
        rw [show wrap64 ((t[k]).toNat : Int) = (t[k]).toNat by have := u8_lt t[k]; unfold wrap64; omega]
        exact khex2 ((t[k]).toNat : Int) w (by omega) (by have := u8_lt t[k]; omega)
      have hst : hx2 (t.data.toList.take (k + 1)) = hx2 (t.data.toList.take k) ++ hexN ((t[k]).toNat : Int) 2 := by rw [take_snoc t k hlt, hx2_snoc]
      have hl2 := (hex2 t[k]).1
      generalize hexN ((t[k]).toNat : Int) 2 = hs at *
      have hcell : Hid (Lib.byteCells (80 :: 45 :: hx2 (t.data.toList.take (k + 1))) = Lib.byteCells (80 :: 45 :: hx2 (t.data.toList.take k)) ++ Lib.strCells (mkS hs)) := Lib.hid (by rw [hst, strC, ← Lib.byteCells_append]; rfl)
      have hus : (mkS hs).size ≤ 2 := by rw [mkS_size]; omega
      have W2 := Lib.hid (fun (B : Nat) (w : World) h hB => bwrite_any B B (Lib.byteCells (80 :: 45 :: hx2 (t.data.toList.take k))) (mkS hs) w h (by omega) hB)
      generalize mkS hs = u at *
      generalize Lib.byteCells (80 :: 45 :: hx2 (t.data.toList.take k)) = bs at *
      replace H := Lib.hid H
      clear hst hl2 hus hlen
      go_wp2_with (first
        | (go_at_call 133; refine (H.out _).mono ?_; rintro e w3 ⟨rfl, hb3⟩; have I3 := Lib.hid (kbld_below hI.out hb3); have hP3 := Nat.le_trans hPw hb3.size)
        | (go_at_call 134; refine (W2.out _ _ I3.out hP3).mono ?_; rintro e w4 ⟨rfl, hI4, hb4⟩; have N4 := (hb.trans (hb3.mono hPw)).trans hb4))
      go_roundw
      case rel => exact ⟨k + 1, by omega, by go_num, Lib.hid (Or.inr (by rw [hcell.out]; exact hI4)), N4⟩
      case measure => (simp [intOf]; try omega)
    · obtain rfl : k = t.size := by omega
      have htk : t.data.toList.take t.size = t.data.toList := take_all t _ (Nat.le_refl _)
      rw [htk] at hI hlen
      have NB := Lib.hid (HB.out.trans (hb.mono HB.out.size))
      cases c with
      | true =>
        have hcell : Hid (Lib.byteCells (psN t.data.toList true) = Lib.byteCells (80 :: 45 :: hx2 t.data.toList) ++ Lib.strCells ⟨#[33]⟩) := Lib.hid (by
          rw [show (⟨#[33]⟩ : ByteArray) = mkS [33] from rfl, strC, ← Lib.byteCells_append]; rfl)
        have W2 := Lib.hid (fun (B : Nat) (w : World) h hB => bwrite_any B B (Lib.byteCells (80 :: 45 :: hx2 t.data.toList)) ⟨#[33]⟩ w h (by show _ + 1 ≤ _; omega) hB)
        have ST := Lib.hid (fun (B : Nat) (w : World) h hB => Tryd.Builder_String_any B B (psN t.data.toList true) w h hB)
        generalize Lib.byteCells (80 :: 45 :: hx2 t.data.toList) = bs at *
        clear hlen htk
        go_wp2_with (first
          | (go_at_call 134; refine (W2.out _ _ hI.out hPw).mono ?_; rintro e w4 ⟨rfl, hI4, hb4⟩; rw [← hcell.out] at hI4; have I4 := Lib.hid (Or.inr hI4 : IsBld W0.heap.size W0.heap.size (Lib.byteCells (psN t.data.toList true)) w4); have hP4 := Nat.le_trans hPw hb4.size)
          | (go_at_call 135; refine (ST.out _ _ I4.out hP4).mono ?_; rintro e w5 ⟨rfl, hb5⟩))
        go_ret
        exact ⟨rfl, (NB.out.trans (hb4.mono HB.out.size)).trans (hb5.mono HB.out.size)⟩
      | false =>
        have e : 80 :: 45 :: hx2 t.data.toList = psN t.data.toList false := by show _ = 80 :: 45 :: (hx2 t.data.toList ++ []); rw [List.append_nil]
        have ST := Lib.hid (fun (B : Nat) (w : World) h hB => Tryd.Builder_String_any B B (psN t.data.toList false) w h hB)
        rw [e] at hI
        clear hlen htk e
        go_wp2_with (first
          | (go_at_call 135; refine (ST.out _ _ hI.out hPw).mono ?_; rintro e w5 ⟨rfl, hb5⟩))
        go_ret
        exact ⟨rfl, NB.out.trans (hb5.mono HB.out.size)⟩
end Go.Proofs.YtdifkjmpdmlobaaDoor
