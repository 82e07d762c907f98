/-
  Joined: In32.
-/
import Derived.Test.YtdafcjjlkjngmaaDoorJI14
import Derived.Test.YtdafcjjlkjngmaaDoorJI15
import Derived.Deep.RegionHeld3
set_option linter.unusedVariables false
set_option linter.unusedSimpArgs false
set_option maxRecDepth 100000
set_option linter.unusedVariables false
set_option linter.unusedSimpArgs false
namespace Go.Proofs.YtdafcjjlkjngmaaDoor
open Go.RowKit Go.Sort
theorem rbA_w (b : UInt8) : (rbA b).1.1.length ≤ 1 := by
  unfold rbA frW
  repeat' split
  all_goals simp
theorem ri_len (m : Int) (P : List UInt8) (pas : Bool) (x : Bool × UInt8) : (riR m (P, pas) x).1.1.length ≤ P.length + 1 := by
  obtain ⟨t, b⟩ := x
  have h1 := rbA_w b
  cases t <;> cases pas
  · show (rbR P b).1.1.length ≤ _
    unfold rbR rbE rbU rbN
    repeat' split
    all_goals (try dsimp only)
    all_goals (try simp)
    all_goals (try omega)
  · show (rbP m P b).1.1.length ≤ _
    unfold rbP
    split <;> simp
  · show ([] : List UInt8).length ≤ _; simp
  · show P.length ≤ _; omega
section
variable {S : Nat → Prop} {p X : Nat} {s : IS} {w : World}
theorem InO.setX (h : InO S p s w) (hX : S X) (i : Nat) (v : Value) : InO S p s (w.setCell ⟨X, i, none⟩ v) := by
  obtain ⟨bv, h1, h2, h3⟩ := h.ex
  have hz : (w.setCell ⟨X, i, none⟩ v).heap.size = w.heap.size := by simp [World.setCell]
  have hx := h3 X hX
  refine ⟨bv, (Below.heap_setCell _ _ _ _ (Ne.symm hx.2.1)).trans h1, own_set h2 hx.2.2 _, fun k hk => ?_⟩
  rw [hz]; exact h3 k hk
end
theorem inq0 {P : Program} {f : FuncId} {args : Array Value} {w : World} {n : Nat} {v : Value}
    (h : Calls P f args (w.drewN n) fun e w' => e = .returned v ∧ w.drewN n = w') :
    Calls P f args (w.drewN n) fun e w'' => e = .returned v ∧ ∃ m, w'' = w.drewN m :=
  h.mono fun _ _ h => ⟨h.1, n, h.2.symm⟩
set_option maxHeartbeats 8000000 in
theorem inputdoes_any (m : Int) (l : List It) (a : Option Addr) (c : Nat) (W : World) (hT : UT W) (hK : KT W) (hmax : l.length ≤ 9223372036854775807) (hR : ItsIn W a l) :
    Calls Tryd.prog 3 #[.int .i64 m, .slice a l.length c] W fun e w' => e = .returned (.bool true) ∧ Below W.heap.size W w' := by
  obtain ⟨n, hn⟩ : ∃ n, l.length = n := ⟨_, rfl⟩
  rw [hn]
  have AW := Lib.hid (fun w h1 h2 => inawake_any w h1 h2)
  have HT := Lib.hid hT
  have HK := Lib.hid hK
  have HR := Lib.hid hR
  have HN := Lib.hid hn
  by_cases h400 : 400 < n
  · have h4 : (400 : Int) < (n : Int) := by omega
    clear hT hK hR hn hmax
    go_enter Tryd.func3, Tryd.ntmps3
    go_wp2_with (go_at_call 10; refine (AW.out _ HT.out HK.out).mono ?_; rintro e w1 ⟨rfl, hb⟩)
    go_ret
    exact ⟨rfl, hb⟩
  have h4 : ¬ (400 : Int) < (n : Int) := by omega
  by_cases hm : 1 ≤ m ∧ m ≤ 65536
  · have HM := Lib.hid hm
    have m1 : ¬ m < 1 := by omega
    have m2 : ¬ (65536 : Int) < m := by omega
    have hn4 : Hid (n ≤ 400) := Lib.hid (by omega)
    clear hT hK hR hn hmax h400 hm
    go_enter Tryd.func3, Tryd.ntmps3
    go_upto_region 3 with (go_at_call 10; refine (AW.out _ HT.out HK.out).mono ?_; rintro e w1 ⟨rfl, hb⟩; have B1 := Lib.hid hb; clear hb)
    go_upto_region 4 with (go_at_call 11; refine (innew_any (S := fun k => k < W.heap.size) m w1 HM.out (fun k hk => Nat.lt_of_lt_of_le hk B1.out.size)).mono ?_; rintro e w2 ⟨rfl, h2, b2⟩; have H2 := Lib.hid h2; have B2 := Lib.hid (B1.out.trans (b2.mono B1.out.size)); clear h2 b2)
    generalize w1.heap.size = p at *
    go_upto_region 8 with fail
    have b3 := below_alloc w2 (.cells #[.string ⟨#[]⟩, .bool false] 29)
    have r3 := heap_alloc_new w2 (.cells #[.string ⟨#[]⟩, .bool false] 29)
    have hs3 : w2.heap.size < (w2.alloc (.cells #[.string ⟨#[]⟩, .bool false] 29)).heap.size := blk_lt r3
    have H3 := Lib.hid (H2.out.kept b3 (T := fun k => k < W.heap.size ∨ k = w2.heap.size) (fun k hk => by
      rcases hk with hk | hk
      · exact Or.inl hk
      · exact Or.inr (by omega)))
    have B3 := Lib.hid (B2.out.trans (b3.mono B2.out.size))
    obtain ⟨W3, hW3⟩ : ∃ W3, w2.alloc (.cells #[.string ⟨#[]⟩, .bool false] 29) = W3 := ⟨_, rfl⟩
    rw [hW3] at H3 B3 r3
    have hge : Hid (W.heap.size ≤ w2.heap.size) := Lib.hid B2.out.size
    obtain ⟨X, hX⟩ : ∃ X, w2.heap.size = X := ⟨_, rfl⟩
    rw [hX] at H3 r3 hge
    have R3 : Hid (W3.heap[X]? = some (.cells #[.string (mkL []), .bool false] 29 (0, 0))) := Lib.hid r3
    clear b3 hs3 r3
    go_upto_region 10 with fail
    clear hW3 hX H2 B2 B1 AW
    go_loopw [8] (fun iv wr => ∃ (k : Nat) (s : IS) (P : List UInt8) (pas : Bool), k ≤ n ∧ iv = .int .i64 (k : Int) ∧ Hid (Rl s (P, pas)) ∧ Hid (s.most = m ∧ GS k s ∧ P.length ≤ k) ∧ Hid (InO (fun k => k < W.heap.size ∨ k = X) p s wr) ∧ Hid (Below W.heap.size W wr) ∧ Hid (wr.heap[X]? = some (.cells #[.string (mkL P), .bool pas] 29 (0, 0)))) (fun iv _ => n - (intOf iv).toNat)
    case atStart => exact ⟨0, in0 m, [], false, Nat.zero_le _, rfl, Lib.hid (rl_0 m), Lib.hid ⟨rfl, gs_in0 HM.out, Nat.le_refl _⟩, H3, B3, R3⟩
    case round =>
      clear H3 B3 R3
      obtain ⟨k, s, P, pas, hk, rfl, HL, HG, HO, HB, HX⟩ := hrel
      by_cases hlt : k < n
      · have hkl : k < l.length := by rw [HN.out]; exact hlt
        obtain ⟨b, off, rfl, hblt, i0, i1⟩ := HR.out k hkl
        have hk1 : (k : Int) < n := by omega
        have hk0 : (0 : Int) ≤ k := by omega
        have HSn : Hid (∀ j, j < W.heap.size → j < wr.heap.size) := Lib.hid (fun j hj => Nat.lt_of_lt_of_le hj HB.out.size)
        have i0' := (HB.out.cell (p := ⟨b, off + k * 2, none⟩) hblt).trans i0
        have i1' := (HB.out.cell (p := ⟨b, off + k * 2 + 1, none⟩) hblt).trans i1
        have HI := Lib.hid (And.intro i0 i1)
        clear i0 i1
        have hX := HX.out
        have x0 := cell_of_row _ _ 0 _ _ _ hX
        have x1 := cell_of_row _ _ 1 _ _ _ hX
        dsimp at x0 x1
        clear hX
        generalize l.getD k (false, 0) = y at *
        obtain ⟨t, u⟩ := y
        obtain ⟨e1, e2, e3⟩ := rl_it HL.out (by rw [HG.out.1]; exact HM.out.1) (t, u)
        have hG2 := gs_it HG.out.2.1 (t, u)
        have hlen := ri_len m P pas (t, u)
        rw [HG.out.1] at e1 e2 e3
        have IR := Lib.hid (fun w => item_ref m P pas t u w (by have := HG.out.2.2; have := hn4.out; omega) HM.out)
        generalize riR m (P, pas) (t, u) = r at *
        obtain ⟨⟨Q, qs⟩, K⟩ := r
        dsimp only at e1 hlen i0' i1'
        have E1 := Lib.hid e1
        have HKl : Hid (K.length ≤ 10) := Lib.hid (by rw [← e1]; exact itK_len HG.out.2.1 (t, u))
        have L2 := Lib.hid e2
        have G2 : Hid ((itR s (t, u)).1.most = m ∧ GS (k + 1) (itR s (t, u)).1 ∧ Q.length ≤ k + 1) := Lib.hid ⟨e3, hG2, by have := HG.out.2.2; omega⟩
        clear e1 e2 e3 hG2 hlen hkl
        have hYX : Hid (wr.heap.size ≠ X) := Lib.hid (Ne.symm (Nat.ne_of_lt (blk_lt HX.out)))
        have hYb : Hid (wr.heap.size ≠ b) := Lib.hid (Ne.symm (Nat.ne_of_lt (HSn.out b hblt)))
        have HSX : Hid (X < wr.heap.size) := Lib.hid (blk_lt HX.out)
        go_upto_region 12 with fail
        go_cut [9] from 47 to 53 (fun s9 wx => ∃ (Y : Nat) (v : Value), s9 = .pointer (some ⟨Y, 0, none⟩) ∧ Hid (wx.heap[Y]? = some (.cells #[.string (mkL Q), .bool qs, v] 32 (0, 0))) ∧ Hid (OwK wx wr.heap.size v K) ∧ Hid (Below wr.heap.size wr wx) ∧ Hid (wr.heap.size ≤ Y))
        case first =>
          have IRa := Lib.hid (IR.out wr.drew)
          have IRb := Lib.hid (IR.out (wr.alloc (.cells #[.string ⟨#[]⟩, .bool false, .slice none 0 0] 32)).drew)
          have r4 := heap_alloc_new wr (.cells #[.string ⟨#[]⟩, .bool false, .slice none 0 0] 32)
          have b4 : Below wr.heap.size wr (wr.alloc (.cells #[.string ⟨#[]⟩, .bool false, .slice none 0 0] 32)).drew := (below_alloc wr _).drew
          have b3 : Below wr.heap.size wr wr.drew := (Below.refl _ _).drew
          have R4 := Lib.hid r4
          have B4 := Lib.hid b4
          have B3 := Lib.hid b3
          clear r4 b4 b3 IR
          go_region_held3 (fun w' => w'.cell? ⟨X, 0, none⟩ = some (.string (mkL P)) ∧ w'.cell? ⟨X, 1, none⟩ = some (.bool pas) ∧ w'.cell? ⟨b, off + k * 2, none⟩ = some (.bool t) ∧ w'.cell? ⟨b, off + k * 2 + 1, none⟩ = some (.int .u8 (u.toNat : Int))) (first | exact ⟨x0, x1, i0', i1'⟩ | exact ⟨x05, x15, i05, i15⟩ | exact ⟨(far3G hYX.out).trans x05, (far3G hYX.out).trans x15, (far3G hYb.out).trans i05, (far3G hYb.out).trans i15⟩ | exact ⟨(World.cell?_alloc_lt _ _ _ hX5.out).trans x05, (World.cell?_alloc_lt _ _ _ hX5.out).trans x15, (World.cell?_alloc_lt _ _ _ hb5.out).trans i05, (World.cell?_alloc_lt _ _ _ hb5.out).trans i15⟩ | exact ⟨(World.cell?_alloc_lt _ _ _ HSX.out).trans x0, (World.cell?_alloc_lt _ _ _ HSX.out).trans x1, (World.cell?_alloc_lt _ _ _ (HSn.out b hblt)).trans i0', (World.cell?_alloc_lt _ _ _ (HSn.out b hblt)).trans i1'⟩ | go_keep)
            (first
              | (go_at_call 12
                 with_reducible refine IRa.out.mono ?_
                 rintro e w5 ⟨v5, rfl, o5, b5⟩
                 obtain ⟨ad5, c5, rfl⟩ := o5.form (n := K.length) rfl
                 have O5 := Lib.hid o5
                 have b5' : Below wr.heap.size wr w5 := seqB B3.out b5
                 have D5 := Lib.hid b5'
                 have x05 := (b5'.cell (p := ⟨X, 0, none⟩) HSX.out).trans x0
                 have x15 := (b5'.cell (p := ⟨X, 1, none⟩) HSX.out).trans x1
                 have i05 := (b5'.cell (p := ⟨b, off + k * 2, none⟩) (HSn.out b hblt)).trans i0'
                 have i15 := (b5'.cell (p := ⟨b, off + k * 2 + 1, none⟩) (HSn.out b hblt)).trans i1'
                 have hX5 := Lib.hid (Nat.lt_of_lt_of_le HSX.out b5'.size)
                 have hb5 := Lib.hid (Nat.lt_of_lt_of_le (HSn.out b hblt) b5'.size)
                 clear o5 b5 b5')
              | (go_at_call 12
                 with_reducible refine IRb.out.mono ?_
                 rintro e w5 ⟨v5, rfl, o5, b5⟩
                 obtain ⟨ad5, c5, rfl⟩ := o5.form (n := K.length) rfl
                 have O5 := Lib.hid o5
                 have b5' : Below wr.heap.size wr w5 := seqB B4.out b5
                 have G5 : Hid (GB wr w5) := Lib.hid ⟨b5', blk_below (w := (wr.alloc (.cells #[.string ⟨#[]⟩, .bool false, .slice none 0 0] 32)).drew) R4.out b5⟩
                 have x05 := (b5'.cell (p := ⟨X, 0, none⟩) HSX.out).trans x0
                 have x15 := (b5'.cell (p := ⟨X, 1, none⟩) HSX.out).trans x1
                 have i05 := (b5'.cell (p := ⟨b, off + k * 2, none⟩) (HSn.out b hblt)).trans i0'
                 have i15 := (b5'.cell (p := ⟨b, off + k * 2 + 1, none⟩) (HSn.out b hblt)).trans i1'
                 obtain ⟨yf, y0, y1, y2⟩ := G5.out.cells
                 clear o5 b5 b5'))
          · go_wp2_with fail
            go_meet
            have ba := below_alloc w5 (.cells #[.string (mkL Q), .bool qs, .slice ad5 K.length c5] 32)
            exact ⟨w5.heap.size, .slice ad5 K.length c5, rfl, Lib.hid (heap_alloc_new _ _), Lib.hid ((O5.out.below ba).mono (Nat.le_refl _)), Lib.hid (seqB D5.out ba), Lib.hid D5.out.size⟩
          · go_wp2_with fail
            go_meet
            obtain ⟨f0, f1, f2, f3, f4⟩ := gt_fin (a := .string (mkL Q)) (b := .bool qs) G5.out.r O5.out G5.out.b rfl
            exact ⟨wr.heap.size, .slice ad5 K.length c5, rfl, Lib.hid (blk_set (blk_set (blk_set G5.out.r 0 _) 1 _) 2 _), Lib.hid (f3.mono B4.out.size), Lib.hid f4, Lib.hid (Nat.le_refl _)⟩
        case rest =>
        obtain ⟨Y, v, rfl, HY, OY, NY, hYge⟩ := hcut
        clear x0 x1 i0' i1' IR
        obtain ⟨ad, cv, rfl⟩ := OY.out.form (n := K.length) rfl
        have NB := Lib.hid (HB.out.trans (NY.out.mono HB.out.size))
        have i0 := (NB.out.cell (p := ⟨b, off + k * 2, none⟩) hblt).trans HI.out.1
        have i1 := (NB.out.cell (p := ⟨b, off + k * 2 + 1, none⟩) hblt).trans HI.out.2
        have y2 := cell_of_row _ _ 2 _ _ _ HY.out
        dsimp at y2 i0 i1
        have HYl : Hid (wr.heap.size ≤ Y ∧ Y < wc.heap.size) := Lib.hid ⟨hYge.out, blk_lt HY.out⟩
        have hO : InO (fun j => (j < W.heap.size ∨ j = X) ∨ (wr.heap.size ≤ j ∧ j < wc.heap.size)) p s wc.drew := HO.out.kept NY.out.drew (fun j hj => hj)
        have hU : US (fun j => (j < W.heap.size ∨ j = X) ∨ (wr.heap.size ≤ j ∧ j < wc.heap.size)) wc.drew := ⟨HT.out.below NB.out.drew, Or.inl (Or.inl HT.out.2.1), Or.inl (Or.inl HT.out.2.2)⟩
        have DO := Lib.hid (do_one (t, u) hO hU HG.out.2.1 (by have := hn4.out; omega))
        rw [E1.out] at DO
        have XC := Lib.hid (blk_below HX.out NY.out)
        generalize (itR s (t, u)).1 = s' at *
        have hbW : Hid (b < wc.heap.size) := Lib.hid (Nat.lt_of_lt_of_le hblt NB.out.size)
        clear hO hU E1
        go_upto_region 13 with fail
        go_region_held3 (fun w' => w'.cell? ⟨Y, 2, none⟩ = some (.slice ad K.length cv) ∧ w'.cell? ⟨b, off + k * 2, none⟩ = some (.bool t) ∧ w'.cell? ⟨b, off + k * 2 + 1, none⟩ = some (.int .u8 (u.toNat : Int))) (first | exact ⟨y2, i0, i1⟩ | exact ⟨y26, i06, i16⟩ | exact ⟨y27, i07, i17⟩ | exact ⟨(World.cell?_alloc_lt _ _ _ HYl.out.2).trans y2, (World.cell?_alloc_lt _ _ _ hbW.out).trans i0, (World.cell?_alloc_lt _ _ _ hbW.out).trans i1⟩ | go_keep)
          (first
            | (go_at_call 14
               refine DO.out.mono ?_
               rintro e w6 ⟨v6, rfl, o6, h6, k6⟩
               obtain ⟨a6, c6, rfl⟩ := o6.form (n := K.length) rfl
               have H6 := Lib.hid (h6.mono (T := fun j => j < W.heap.size ∨ j = X) (fun j hj => Or.inl (Or.inl hj)))
               have D6 := Lib.hid (NB.out.drew.trans (k6.below W.heap.size (fun j hj => Or.inl (Or.inl hj))))
               have X6 := Lib.hid ((k6.block X (Or.inl (Or.inr rfl))).trans XC.out)
               have Y6 := Lib.hid ((k6.block Y (Or.inr HYl.out)).trans HY.out)
               have y26 := cell_of_row _ _ 2 _ _ _ Y6.out
               have i06 := (D6.out.cell (p := ⟨b, off + k * 2, none⟩) hblt).trans HI.out.1
               have i16 := (D6.out.cell (p := ⟨b, off + k * 2 + 1, none⟩) hblt).trans HI.out.2
               dsimp at y26 i06 i16
               obtain ⟨_, _, e61, s61⟩ := o6.sl
               cases e61
               obtain ⟨_, _, e62, s62⟩ := ((OY.out.below (Below.refl _ _).drew).keptM k6 (fun bk h => Or.inr (OY.out.lt bk h))).sl
               cases e62
               have S61 := Lib.hid s61.s
               have S62 := Lib.hid s62.s
               clear o6 h6 k6 s61 s62)
            | (go_at_call 13
               refine (ksame_ref K a6 ad K.length c6 cv _ rfl (by have := HKl.out; omega) S61.out S62.out).mono ?_
               rintro e w7 ⟨rfl, hb⟩
               have H7 := Lib.hid (H6.out.kept hb (T := fun j => j < W.heap.size ∨ j = X) (fun j hj => Or.inl hj))
               have D7 := Lib.hid (seqB D6.out hb)
               have X7 := Lib.hid (blk_below X6.out hb)
               have Y7 := Lib.hid (blk_below Y6.out hb)
               have y27 := cell_of_row _ _ 2 _ _ _ Y7.out
               have i07 := (D7.out.cell (p := ⟨b, off + k * 2, none⟩) hblt).trans HI.out.1
               have i17 := (D7.out.cell (p := ⟨b, off + k * 2 + 1, none⟩) hblt).trans HI.out.2
               dsimp at y27 i07 i17
               clear hb))
        all_goals
          clear y2 i0 i1 y26 i06 i16 y27 i07 i17
          have y0 := cell_of_row _ _ 0 _ _ _ Y7.out
          have y1 := cell_of_row _ _ 1 _ _ _ Y7.out
          have x0 := cell_of_row _ _ 0 _ _ _ X7.out
          have x1 := cell_of_row _ _ 1 _ _ _ X7.out
          have xf := fun i => frozen_of_row _ X i _ _ X7.out
          dsimp at y0 y1 x0 x1
          have H8 := Lib.hid ((H7.out.setX (Or.inr rfl) 0 (.string (mkL Q))).setX (X := X) (Or.inr rfl) 1 (.bool qs))
          have X8 := Lib.hid (blk_set (blk_set X7.out 0 (.string (mkL Q))) 1 (.bool qs))
          have D8 := Lib.hid ((D7.out.setCell (p := ⟨X, 0, none⟩) hge.out (.string (mkL Q))).setCell (p := ⟨X, 1, none⟩) hge.out (.bool qs))
          obtain ⟨W8, hW8⟩ : ∃ W8, (w7.setCell ⟨X, 0, none⟩ (.string (mkL Q))).setCell ⟨X, 1, none⟩ (.bool qs) = W8 := ⟨_, rfl⟩
          rw [hW8] at H8 X8 D8
          have X8 : Hid (W8.heap[X]? = some (.cells #[.string (mkL Q), .bool qs] 29 (0, 0))) := Lib.hid X8.out
          have BD : ∀ n, Below W8.heap.size W8 (W8.drewN n) := fun n => ⟨rfl, rfl, rfl, Nat.le_refl _, fun _ _ => rfl⟩
          have BD := Lib.hid BD
          have PA : Hid (∀ n, Calls Tryd.prog 15 #[.pointer (some ⟨p, 0, none⟩)] (W8.drewN n) fun e w' => e = .returned (.bool qs) ∧ W8.drewN n = w') := Lib.hid (fun n => by
            have := inpas_any (H8.out.kept (BD.out n) (T := fun j => j < W.heap.size ∨ j = X) (fun j hj => Or.inl hj))
            rw [show s'.pas = qs from L2.out.p] at this
            exact this)
          have WA : Hid (∀ n, Calls Tryd.prog 16 #[.pointer (some ⟨p, 0, none⟩)] (W8.drewN n) fun e w' => e = .returned (.bool (qs || decide (Q ≠ []))) ∧ W8.drewN n = w') := Lib.hid (fun n => by
            have := inwaits_any (H8.out.kept (BD.out n) (T := fun j => j < W.heap.size ∨ j = X) (fun j hj => Or.inl hj))
            rw [show (decide (s'.wait ≠ []) || s'.pas) = (qs || decide (Q ≠ [])) from rl_waits L2.out] at this
            exact this)
          have z0 := cell_of_row _ _ 0 _ _ _ X8.out
          have z1 := cell_of_row _ _ 1 _ _ _ X8.out
          dsimp at z0 z1
          have REL : Hid (∀ n, ∃ (k' : Nat) (s : IS) (P : List UInt8) (pas : Bool), k' = k + 1 ∧ Hid (Rl s (P, pas)) ∧ Hid (s.most = m ∧ GS k' s ∧ P.length ≤ k') ∧ Hid (InO (fun j => j < W.heap.size ∨ j = X) p s (W8.drewN n)) ∧ Hid (Below W.heap.size W (W8.drewN n)) ∧ Hid ((W8.drewN n).heap[X]? = some (.cells #[.string (mkL P), .bool pas] 29 (0, 0)))) := Lib.hid (fun n =>
            ⟨k + 1, s', Q, qs, rfl, L2, G2, Lib.hid (H8.out.kept (BD.out n) (T := fun j => j < W.heap.size ∨ j = X) (fun j hj => Or.inl hj)), Lib.hid (seqB D8.out (BD.out n)), Lib.hid X8.out⟩)
          clear L2 G2 H8 D8 X8 BD
          cases qs
          · by_cases hQ : Q = []
            · subst hQ
              rw [show mkL [] = ⟨#[]⟩ from rfl] at z0
              rw [show (false || decide (([] : List UInt8) ≠ [])) = false from rfl] at WA
              go_upto_region 16 with fail
              clear hW8 y0 y1 x0 x1 xf
              go_quiet ((first | (go_at_call 15; exact inq0 (PA.out _)) | (go_at_call 16; exact inq0 (WA.out _))))
              go_wp2
              go_roundw
              case rel => obtain ⟨k', s, P, pas, e, h1, h2, h3, h4, h5⟩ := REL.out nq; exact ⟨k', s, P, pas, by omega, by rw [e]; go_num, h1, h2, h3, h4, h5⟩
              case measure => (simp [intOf]; try omega)
            · have hne := bq_ne hQ
              have hne2 : ((mkL Q).toList != []) = true := by unfold bne; rw [hne]; rfl
              have hne3 : ¬ (mkL Q).toList = [] := by rw [mkL_toList]; exact hQ
              have hne4 : (mkL Q).toList.isEmpty = false := by simpa using hne3
              rw [show (false || decide (Q ≠ [])) = true by simpa using hQ] at WA
              go_upto_region 16 with fail
              clear hW8 y0 y1 x0 x1 xf hQ
              go_quiet ((first | (go_at_call 15; exact inq0 (PA.out _)) | (go_at_call 16; exact inq0 (WA.out _))))
              go_wp2
              go_roundw
              case rel => obtain ⟨k', s, P, pas, e, h1, h2, h3, h4, h5⟩ := REL.out nq; exact ⟨k', s, P, pas, by omega, by rw [e]; go_num, h1, h2, h3, h4, h5⟩
              case measure => (simp [intOf]; try omega)
          · rw [Bool.true_or] at WA
            go_upto_region 16 with fail
            clear hW8 y0 y1 x0 x1 xf
            go_quiet ((first | (go_at_call 15; exact inq0 (PA.out _)) | (go_at_call 16; exact inq0 (WA.out _))))
            go_wp2
            go_roundw
            case rel => obtain ⟨k', s, P, pas, e, h1, h2, h3, h4, h5⟩ := REL.out nq; exact ⟨k', s, P, pas, by omega, by rw [e]; go_num, h1, h2, h3, h4, h5⟩
            case measure => (simp [intOf]; try omega)
      · obtain rfl : k = n := by omega
        have hk1 : ¬ ((k : Int) < (k : Int)) := by omega
        go_wp2
        go_ret
        exact ⟨rfl, HB.out⟩
  · have NN := Lib.hid (fun w => innew_no m w hm)
    have hmm : m < 1 ∨ (¬ m < 1 ∧ (65536 : Int) < m) := by omega
    clear hT hK hR hn hmax h400 hm
    rcases hmm with m1 | ⟨m1, m2⟩
    all_goals
      go_enter Tryd.func3, Tryd.ntmps3
      go_wp2_with (first
        | (go_at_call 10; refine (AW.out _ HT.out HK.out).mono ?_; rintro e w1 ⟨rfl, hb⟩)
        | (go_at_call 11; refine (NN.out _).mono ?_; rintro e w2 ⟨rfl, rfl⟩))
      go_ret
      exact ⟨rfl, hb⟩
end Go.Proofs.YtdafcjjlkjngmaaDoor
