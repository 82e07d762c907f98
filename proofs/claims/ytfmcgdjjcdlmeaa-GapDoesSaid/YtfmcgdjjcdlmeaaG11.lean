/-
  Gap buffers: Set.
-/
import Derived.Test.YtfmcgdjjcdlmeaaG10
set_option linter.unusedVariables false
set_option linter.unusedSimpArgs false
namespace Go.Proofs.Ytfmcgdjjcdlmeaa
set_option maxRecDepth 100000
open Go.RowKit
theorem gset_err (p : Nat) (M : Int) (v : Value) (R : List Sn) (a e : Nat) (l : List Sn) (b : Option Addr) (c : Nat) (i : Int) (w : World) (h : GapAt p M v R a e w) (hl : l.length ≤ 9223372036854775807) (hs : Signs w b l) (er : Int) (her : gmE l M 0 = er) (hne : er ≠ 0) :
    Calls Try.prog 18 #[.pointer (some ⟨p, 0, none⟩), .slice b l.length c, .int .i64 i] w fun x w' => x = .returned (.int .i64 er) ∧ Below w.heap.size w w' := by
  have MY := gmay_any p M v R a e l b c 0 w h hl hs (by omega) (by omega)
  rw [her] at MY
  replace MY := Lib.hid MY
  clear h hs her
  go_enter Try.func18, Try.ntmps18
  go_wp2_with (go_at_call 26; refine MY.out.mono ?_; rintro x w2 ⟨rfl, hb2⟩)
  go_ret
  exact ⟨rfl, hb2⟩
theorem gset_nil (s : Value) (i : Int) (w : World) : Calls Try.prog 18 #[.pointer none, s, .int .i64 i] w fun x w' => x = .returned (.int .i64 1) ∧ w = w' := by
  have MY := Lib.hid fun w => gmay_nil s 0 w
  go_enter Try.func18, Try.ntmps18
  go_wp2_with (go_at_call 26; refine (MY.out _).mono ?_; rintro x w2 ⟨rfl, rfl⟩)
  go_ret
  exact ⟨rfl, rfl⟩
/-- What Set leaves. -/
def SetPost (p : Nat) (M : Int) (v : Value) (l : List Sn) (t : Nat) (w : World) (x : Ending) (w' : World) : Prop :=
  x = .returned (.int .i64 0) ∧ ∃ v' R' e', GapAt p M v' R' t e' w' ∧ gsL R' t e' = l ∧ Kept p v w w' ∧ (v' = v ∨ ∀ r, v'.ownBlock = some r → w.heap.size ≤ r)
theorem gs_none (R : List Sn) : gsL R 0 R.length = [] := by unfold gsL; simp
theorem set_zero {p : Nat} {M : Int} {v : Value} {R : List Sn} {a e : Nat} {w : World} (h : GapAt p M v R a e w) : GapAt p M v R 0 R.length ((w.setCell ⟨p, 2, none⟩ (.int .i64 0)).setCell ⟨p, 3, none⟩ (.int .i64 (R.length : Int))) := by
  have h2 := h.le2
  refine ⟨blk_set (blk_set h.blk 2 (.int .i64 ((0 : Nat) : Int))) 3 (.int .i64 (R.length : Int)), (h.room.set 2 _).set 3 _, Nat.zero_le _, Nat.le_refl _, h.big, h.m1, h.m2⟩
set_option maxHeartbeats 8000000 in
theorem gset_any (p : Nat) (M : Int) (v : Value) (R : List Sn) (a e : Nat) (l : List Sn) (b : Option Addr) (c : Nat) (i : Int) (w : World) (h : GapAt p M v R a e w) (hs : Signs w b l) (hb : l ≠ [] → ∀ ad, b = some ad → ad.block ≠ p ∧ some ad.block ≠ v.ownBlock) (hok : sgC l = true) (hM : (l.length : Int) ≤ M) (hi : i ≤ 9223372036854775807) :
    Calls Try.prog 18 #[.pointer (some ⟨p, 0, none⟩), .slice b l.length c, .int .i64 i] w (SetPost p M v l (mvT l.length i) w) := by
  have hm2 := h.m2
  have MY := gmay_any p M v R a e l b c 0 w h (by omega) hs (by omega) (by omega)
  rw [show gmE l M 0 = 0 by unfold gmE; rw [if_pos hok, if_neg (by omega)]] at MY
  have WD := Lib.hid fun w => gwidener_any p w
  have WR := Lib.hid fun q w1 h hq => gwide_any p M v R 0 R.length l.length q w1 h hq (by rw [gs_none]; simpa using hM)
  have MV := Lib.hid fun v R a e w h => gmove_any p M v R a e i w h hi
  have HG := Lib.hid h
  have HS := Lib.hid hs
  have HB := Lib.hid hb
  replace MY := Lib.hid MY
  have hMl : l.length ≤ 65536 := by omega
  obtain ⟨ad0, hv0⟩ := h.slice
  subst hv0
  clear h hs hb hM hok
  go_enter Try.func18, Try.ntmps18
  go_wp2_with (first
    | (go_at_call 26; refine MY.out.mono ?_; rintro x w2 ⟨rfl, hb2⟩; obtain ⟨c0, c1, c2, c3⟩ := (HG.out.below hb2).cells; have zf := fun i => frozen_of_row _ p i _ _ (HG.out.below hb2).blk)
    | (go_at_call 27
       have G3 := set_zero (HG.out.below hb2)
       have K3 := ((Kept.of (p := p) (v := .slice none 0 0) hb2).set 2 (.int .i64 0)).set 3 (.int .i64 (R.length : Int))
       generalize hW3 : World.setCell _ _ _ = W3
       rw [hW3] at G3 K3
       clear hW3
       replace G3 := Lib.hid G3; replace K3 := Lib.hid K3
       refine (WD.out _).mono ?_
       rintro x w3 ⟨rfl, hw3⟩
       have B3 := below_alloc W3 (.cells #[.pointer (some ⟨p, 0, none⟩)] 24)
       have q3 := heap_alloc_new W3 (.cells #[.pointer (some ⟨p, 0, none⟩)] 24)
       rw [hw3] at B3 q3
       have q30 := Lib.hid (cell_of_row _ _ 0 _ _ _ q3)
       have B3 := Lib.hid B3
       clear hw3 q3)
    | (go_at_call 31
       refine (WR.out _ _ (G3.out.below B3.out) q30.out).mono ?_
       rintro x w4 ⟨rfl, v4, R4, e4, hG4', hgs4', hn4, hk4', hv4'⟩
       have hG4 := Lib.hid hG4'; have hgs4 := Lib.hid hgs4'
       have hk4 := Lib.hid ((K3.out.trans (Kept.of (p := p) (v := .slice none 0 0) B3.out) (Or.inl rfl)).trans hk4' (Or.inl rfl))
       have hv4 : Hid (v4 = (Value.slice ad0 R.length R.length) ∨ ∀ r, v4.ownBlock = some r → w.heap.size ≤ r) := Lib.hid (hv4'.imp id (fun h r hr => Nat.le_trans (Nat.le_trans K3.out.size B3.out.size) (h r hr)))
       clear hG4' hgs4' hk4' hv4'
       have hn := hn4
       clear c0 c1 c2 c3 zf WR WD MY hb2 G3 K3 B3 q30 hn4))
  have hvb : Hid (v4.ownBlock = (Value.slice ad0 R.length R.length).ownBlock ∨ ∀ r, v4.ownBlock = some r → w.heap.size ≤ r) := Lib.hid (hv4.out.imp (fun h => by rw [h]) id)
  have h1 := hG4.out.le1; have h2 := hG4.out.le2; have h3 := hG4.out.big
  have HKS : Hid (Signs w4 b l) := Lib.hid (HS.out.kept0 hk4.out (fun hl ad e => ⟨(HB.out hl ad e).1, by simp [Value.ownBlock]⟩))
  obtain ⟨c0, c1, c2, c3⟩ := hG4.out.cells
  have zf := fun i => frozen_of_row _ p i _ _ hG4.out.blk
  have FIN : Hid (∀ W5 R5, GapAt p M v4 R5 l.length e4 W5 → gsL R5 l.length e4 = l → Kept p v4 w4.drew W5 → Calls Try.prog 17 #[.pointer (some ⟨p, 0, none⟩), .int .i64 i] W5 fun x w' => x = .returned (.tuple #[]) ∧ SetPost p M (.slice ad0 R.length R.length) l (mvT l.length i) w (.returned (.int .i64 0)) w') := Lib.hid fun W5 R5 g1 g2 g3 => by
    have m := MV.out v4 R5 l.length e4 W5 g1
    rw [g2] at m
    refine m.mono ?_
    rintro x w' ⟨rfl, R', e', k1, k2, _, k3⟩
    exact ⟨rfl, rfl, v4, R', e', k1, k2.trans g2, ((hk4.out.weaken).trans (w1 := w4) ⟨g3.os, g3.tape, g3.output, g3.size, g3.block⟩ hvb.out).trans k3 hvb.out, hv4.out⟩
  by_cases hl0 : l = []
  · subst hl0
    obtain ⟨ad, hv⟩ := hG4.out.slice
    subst hv
    have cp := fun (d : Option Addr) (dl dc : Nat) => run_copy_zero (P := Try.prog) w4.drew 28 28 3 43 d b dl dc c Try.underlying28 (by rw [infoSz]; rfl)
    have D0 := Lib.hid (in_done0 (hG4.out.drew 1) (0 : Int) rfl)
    have F0 := Lib.hid (FIN.out _ R4 D0.out.1 (hgs4.out.trans (gs_none R)) D0.out.2)
    go_region
    go_wp2_with (go_at_call 17; refine F0.out.mono ?_; rintro x w5 ⟨rfl, hw5⟩; have hw5 := Lib.hid hw5)
    go_ret
    exact hw5.out
  · have hlp : 0 < l.length := List.length_pos_iff.2 hl0
    rcases hG4.out.room with ⟨hv, hR⟩ | ⟨r, hv, hrp, hr⟩
    · rw [hR] at h2; simp at h2; omega
    · subst hv
      cases b with
      | none => obtain ⟨_, _, e0, _⟩ := HKS.out 0 hlp; cases e0
      | some ad =>
        have hnn : l.length ≤ e4 - 0 := hn
        have cp : (Builtin.copy_ #[28, 28] 3 #[.slice (some ⟨r, 0, none⟩) R4.length R4.length, .slice (some ad) l.length c]).run Try.prog w4.drew = .ok (goInt l.length) (w4.drew.setRow r (sRow (cpL R4 0 l))) :=
          copy_signs (w := w4.drew) 3 (o := 0) (dl := R4.length) (dc := R4.length) hr HKS.out (by omega) (by omega)
        have D0 := Lib.hid (in_done (a := 0) (hG4.out.drew 1) hnn ((l.length : Nat) : Int) (by omega))
        have hgi : gsL (cpL R4 0 l) (0 + l.length) e4 = l := (in_gs R4 0 e4 l h1 h2 hnn).trans (by rw [hgs4.out, gs_none]; show [] ++ l ++ [] = l; simp)
        replace hgi := Lib.hid hgi
        rw [Nat.zero_add] at D0 hgi
        have F0 := Lib.hid (FIN.out _ _ D0.out.1 hgi.out D0.out.2)
        clear hr
        have hcr := fun L => cell_setRow_other w4.drew r (sRow L) ⟨p, 2, none⟩ (Ne.symm hrp)
        have hfr : (w4.drew.setRow r (sRow (cpL R4 0 l))).frozen? ⟨p, 2, none⟩ = false := by
          have hb : (w4.drew.setRow r (sRow (cpL R4 0 l))).heap[p]? = _ := (setRow_other w4.drew r p _ (Ne.symm hrp)).trans hG4.out.blk
          exact frozen_of_row _ p 2 _ _ hb
        have hcc : (w4.drew.setRow r (sRow (cpL R4 0 l))).cell? ⟨p, 2, none⟩ = some (.int .i64 0) := (hcr _).trans c2
        clear hcr
        go_region
        go_wp2_with (go_at_call 17; refine F0.out.mono ?_; rintro x w5 ⟨rfl, hw5⟩; have hw5 := Lib.hid hw5)
        go_ret
        exact hw5.out
end Go.Proofs.Ytfmcgdjjcdlmeaa
