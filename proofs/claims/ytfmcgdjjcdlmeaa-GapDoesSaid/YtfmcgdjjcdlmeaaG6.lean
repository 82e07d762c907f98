/-
  Gap buffers: Insert.
-/
import Derived.Test.YtfmcgdjjcdlmeaaG5
set_option linter.unusedVariables false
set_option linter.unusedSimpArgs false
namespace Go.Proofs.Ytfmcgdjjcdlmeaa
set_option maxRecDepth 100000
open Go.RowKit
/-- What Insert leaves. -/
def InPost (p : Nat) (M : Int) (v : Value) (R : List Sn) (a e : Nat) (l : List Sn) (w : World) (x : Ending) (w' : World) : Prop :=
  x = .returned (.int .i64 0) ∧ ∃ v' R' e', GapAt p M v' R' (a + l.length) e' w' ∧ gsL R' (a + l.length) e' = (gsL R a e).take a ++ l ++ (gsL R a e).drop a ∧ Kept p v w w' ∧ (v' = v ∨ ∀ r, v'.ownBlock = some r → w.heap.size ≤ r)
theorem gsL_take (R : List Sn) (a e : Nat) (h1 : a ≤ e) (h2 : e ≤ R.length) : (gsL R a e).take a = R.take a ∧ (gsL R a e).drop a = R.drop e := by
  have ha : (R.take a).length = a := by rw [List.length_take]; omega
  unfold gsL
  constructor
  · rw [List.take_append_of_le_length (by omega), List.take_of_length_le (by omega)]
  · rw [List.drop_append, List.drop_of_length_le (by omega), ha, Nat.sub_self, List.drop_zero, List.nil_append]
theorem in_gs (R : List Sn) (a e : Nat) (l : List Sn) (h1 : a ≤ e) (h2 : e ≤ R.length) (hl : l.length ≤ e - a) : gsL (cpL R a l) (a + l.length) e = (gsL R a e).take a ++ l ++ (gsL R a e).drop a := by
  have ha : (R.take a).length = a := by rw [List.length_take]; omega
  rw [(gsL_take R a e h1 h2).1, (gsL_take R a e h1 h2).2]
  unfold gsL cpL
  have hal : (R.take a ++ l).length = a + l.length := by rw [List.length_append, ha]
  congr 1
  · rw [List.take_append_of_le_length (by omega), List.take_of_length_le (by omega)]
  · rw [List.drop_append, List.drop_of_length_le (by omega), List.nil_append, hal, List.drop_drop]; congr 1; omega
/-- What a copy of what comes leaves. -/
theorem in_done {p r : Nat} {M : Int} {R : List Sn} {a e : Nat} {l : List Sn} {w : World} (h : GapAt p M (.slice (some ⟨r, 0, none⟩) R.length R.length) R a e w) (hl : l.length ≤ e - a) (E : Int) (hE : E = (a : Int) + (l.length : Int)) :
    GapAt p M (.slice (some ⟨r, 0, none⟩) R.length R.length) (cpL R a l) (a + l.length) e ((w.setRow r (sRow (cpL R a l))).setCell ⟨p, 2, none⟩ (.int .i64 E)) ∧ Kept p (.slice (some ⟨r, 0, none⟩) R.length R.length) w ((w.setRow r (sRow (cpL R a l))).setCell ⟨p, 2, none⟩ (.int .i64 E)) := by
  have h1 := h.le1; have h2 := h.le2
  have hc := cpL_len R a l (by omega)
  rcases h.room with ⟨hv, _⟩ | ⟨r', hv, hrp, hr⟩
  · cases hv
  · cases hv
    have hsr := setRow_heap w r _ (sRow (cpL R a l)) 43 (0, 0) hr
    refine ⟨⟨?_, Or.inr ⟨r, by rw [hc], hrp, ?_⟩, by omega, by rw [hc]; exact h2, by rw [hc]; exact h.big, h.m1, h.m2⟩, ⟨rfl, rfl, rfl, by simp [World.setCell], fun k hk hkp hkr => ?_⟩⟩
    · have hb : (w.setRow r (sRow (cpL R a l))).heap[p]? = _ := (setRow_other w r p _ (Ne.symm hrp)).trans h.blk
      have := blk_set hb 2 (.int .i64 E)
      rw [hE] at this ⊢
      rw [show (a : Int) + (l.length : Int) = ((a + l.length : Nat) : Int) by omega] at this ⊢
      exact this
    · exact (Below.heap_setCell _ _ _ _ (by show r ≠ p; exact hrp)).trans hsr
    · exact (Below.heap_setCell _ _ _ _ hkp).trans (setRow_other w r k _ (fun e => hkr (by rw [e]; rfl)))
theorem run_copy_zero {P : Program} (w : World) (dT sT ty elem : TypeId) (d s : Option Addr) (dl dc sc : Nat) (hu : P.underlying dT = some (.slice elem)) (hs : ((P.info? elem).map (·.size)).isSome = true) :
    (Builtin.copy_ #[dT, sT] ty #[.slice d dl dc, .slice s 0 sc]).run P w = .ok (goInt 0) w := by
  cases hq : P.info? elem with
  | none => simp [hq] at hs
  | some i => cases s <;> cases d <;> simp [Builtin.copy_, run_underlying hu, Builtin.lenOf, Builtin.firstCells, sizeOf, typeInfo, hq, loadCells, loadCellsFrom, storeCells]
theorem Kept.weaken {p : Nat} {v : Value} {w w' : World} (h : Kept p (.slice none 0 0) w w') : Kept p v w w' := ⟨h.os, h.tape, h.output, h.size, fun k hk hp _ => h.block k hk hp (by simp [Value.ownBlock])⟩
theorem Signs.kept {p : Nat} {v : Value} {w w' : World} {b : Option Addr} {l : List Sn} (h : Signs w b l) (hk : Kept p v w w') (hb : ∀ ad, b = some ad → ad.block ≠ p ∧ some ad.block ≠ v.ownBlock) : Signs w' b l := fun i hi => by
  obtain ⟨bl, off, e, hlt, h1, h2⟩ := h i hi
  have ⟨n1, n2⟩ := hb _ e
  have hbk := hk.block bl hlt n1 n2
  exact ⟨bl, off, e, Nat.lt_of_lt_of_le hlt hk.size, (World.cell?_of_block (w := w) (a := ⟨bl, off + i * 2, none⟩) hbk).trans h1, (World.cell?_of_block (w := w) (a := ⟨bl, off + i * 2 + 1, none⟩) hbk).trans h2⟩
theorem Signs.kept0 {p : Nat} {v : Value} {w w' : World} {b : Option Addr} {l : List Sn} (h : Signs w b l) (hk : Kept p v w w') (hb : l ≠ [] → ∀ ad, b = some ad → ad.block ≠ p ∧ some ad.block ≠ v.ownBlock) : Signs w' b l := by
  by_cases hl : l = []
  · subst hl; exact fun i hi => absurd hi (Nat.not_lt_zero i)
  · exact h.kept hk (hb hl)
theorem in_done0 {p : Nat} {M : Int} {v : Value} {R : List Sn} {a e : Nat} {w : World} (h : GapAt p M v R a e w) (E : Int) (hE : E = (a : Int)) :
    GapAt p M v R a e (w.setCell ⟨p, 2, none⟩ (.int .i64 E)) ∧ Kept p v w (w.setCell ⟨p, 2, none⟩ (.int .i64 E)) := by
  refine ⟨⟨?_, h.room.set 2 _, h.le1, h.le2, h.big, h.m1, h.m2⟩, (Kept.of (Below.refl _ _)).set 2 _⟩
  rw [hE]; exact blk_set h.blk 2 (.int .i64 (a : Int))
theorem gin_err (p : Nat) (M : Int) (v : Value) (R : List Sn) (a e : Nat) (l : List Sn) (b : Option Addr) (c : Nat) (w : World) (h : GapAt p M v R a e w) (hl : l.length ≤ 9223372036854775807) (hs : Signs w b l) (er : Int) (her : gmE l M ((gsL R a e).length : Int) = er) (hne : er ≠ 0) :
    Calls Try.prog 9 #[.pointer (some ⟨p, 0, none⟩), .slice b l.length c] w fun x w' => x = .returned (.int .i64 er) ∧ Below w.heap.size w w' := by
  have hlen := gsL_len R a e h.le1 h.le2
  have hbig := h.big
  have L := Lib.hid (glen_any p M v R a e w h)
  have MY := fun w1 (hb : Below w.heap.size w w1) => gmay_any p M v R a e l b c ((gsL R a e).length : Int) w1 (h.below hb) hl (hs.below hb) (by omega) (by omega)
  rw [her] at MY
  replace MY := Lib.hid MY
  clear h hs her hlen
  go_enter Try.func9, Try.ntmps9
  go_wp2_with (first
    | (go_at_call 20; refine L.out.mono ?_; rintro x w1 ⟨rfl, hb1⟩)
    | (go_at_call 26; refine (MY.out _ hb1).mono ?_; rintro x w2 ⟨rfl, hb2⟩))
  go_ret
  exact ⟨rfl, seqB hb1 hb2⟩
theorem gin_nil (s : Value) (w : World) : Calls Try.prog 9 #[.pointer none, s] w fun x w' => x = .returned (.int .i64 1) ∧ w = w' := by
  have L := Lib.hid fun w => glen_nil w
  have MY := Lib.hid fun w => gmay_nil s 0 w
  go_enter Try.func9, Try.ntmps9
  go_wp2_with (first
    | (go_at_call 20; refine (L.out _).mono ?_; rintro x w1 ⟨rfl, rfl⟩)
    | (go_at_call 26; refine (MY.out _).mono ?_; rintro x w2 ⟨rfl, rfl⟩))
  go_ret
  exact ⟨rfl, rfl⟩
set_option maxHeartbeats 8000000 in
theorem gin_any (p : Nat) (M : Int) (v : Value) (R : List Sn) (a e : Nat) (l : List Sn) (b : Option Addr) (c : Nat) (w : World) (h : GapAt p M v R a e w) (hs : Signs w b l) (hb : l ≠ [] → ∀ ad, b = some ad → ad.block ≠ p ∧ some ad.block ≠ v.ownBlock) (hok : sgC l = true) (hM : (l.length : Int) + ((gsL R a e).length : Int) ≤ M) :
    Calls Try.prog 9 #[.pointer (some ⟨p, 0, none⟩), .slice b l.length c] w (InPost p M v R a e l w) := by
  have hlen := gsL_len R a e h.le1 h.le2
  have hbig := h.big
  have hm2 := h.m2
  have L := Lib.hid (glen_any p M v R a e w h)
  have MY := fun w1 (hb : Below w.heap.size w w1) => gmay_any p M v R a e l b c ((gsL R a e).length : Int) w1 (h.below hb) (by omega) (hs.below hb) (by omega) (by omega)
  rw [show gmE l M ((gsL R a e).length : Int) = 0 by unfold gmE; rw [if_pos hok, if_neg (by omega)]] at MY
  have WD := Lib.hid fun w => gwidener_any p w
  have WR := Lib.hid fun q w1 h hq => gwide_any p M v R a e l.length q w1 h hq hM
  have HG := Lib.hid h
  have HS := Lib.hid hs
  have HB := Lib.hid hb
  replace MY := Lib.hid MY
  have hMl : l.length ≤ 65536 := by omega
  clear h hs hb hM hok hlen hbig
  go_enter Try.func9, Try.ntmps9
  go_upto_region 6 with (first
    | (go_at_call 20; refine L.out.mono ?_; rintro x w1 ⟨rfl, hb1⟩)
    | (go_at_call 26; refine (MY.out _ hb1).mono ?_; rintro x w2 ⟨rfl, hb2⟩; have N2 := Lib.hid (seqB hb1 hb2))
    | (go_at_call 27; refine (WD.out _).mono ?_; rintro x w3 ⟨rfl, hw3⟩; have B3 := below_alloc w2 (.cells #[.pointer (some ⟨p, 0, none⟩)] 24); have q3 := heap_alloc_new w2 (.cells #[.pointer (some ⟨p, 0, none⟩)] 24); rw [hw3] at B3 q3; have q30 := Lib.hid (cell_of_row _ _ 0 _ _ _ q3); have N3 := Lib.hid (seqB N2.out B3); clear hw3 B3 q3)
    | (go_at_call 31; refine (WR.out _ _ (HG.out.below N3.out) q30.out).mono ?_; rintro x w4 ⟨rfl, v4, R4, e4, hG4, hgs4, hn4, hk4, hv4⟩; have hG4 := Lib.hid hG4; have hgs4 := Lib.hid hgs4; have hk4 := Lib.hid ((Kept.of (p := p) (v := .slice none 0 0) N3.out).trans hk4 (Or.inl rfl)); have hv4 : Hid (v4 = v ∨ ∀ r, v4.ownBlock = some r → w.heap.size ≤ r) := Lib.hid (hv4.imp id (fun h r hr => Nat.le_trans N3.out.size (h r hr)))))
  have h1 := hG4.out.le1; have h2 := hG4.out.le2; have h3 := hG4.out.big
  have hn := hn4
  have HKS : Hid (Signs w4 b l) := Lib.hid (HS.out.kept0 hk4.out (fun hl ad e => ⟨(HB.out hl ad e).1, by simp [Value.ownBlock]⟩))
  clear L MY WD WR hb1 hb2 N2 N3 q30 hn4
  obtain ⟨c0, c1, c2, c3⟩ := hG4.out.cells
  have zf := fun i => frozen_of_row _ p i _ _ hG4.out.blk
  have FIN : Hid (∀ w' v' R' e', GapAt p M v' R' (a + l.length) e' w' → gsL R' (a + l.length) e' = (gsL R a e).take a ++ l ++ (gsL R a e).drop a → Kept p v4 w4.drew w' → v' = v4 → InPost p M v R a e l w (.returned (.int .i64 0)) w') := Lib.hid fun w' v' R' e' g1 g2 g3 g4 => by
    subst g4
    refine ⟨rfl, v', R', e', g1, g2, (hk4.out.weaken).trans ⟨g3.os, g3.tape, g3.output, g3.size, g3.block⟩ ?_, hv4.out⟩
    rcases hv4.out with h | h
    · exact Or.inl (by rw [h])
    · exact Or.inr h
  by_cases hl0 : l = []
  · subst hl0
    obtain ⟨ad, hv⟩ := hG4.out.slice
    subst hv
    have cp := fun (d : Option Addr) (dl dc : Nat) => run_copy_zero (P := Try.prog) w4.drew 28 28 3 43 d b dl dc c Try.underlying28 (by rw [infoSz]; rfl)
    have D0 := Lib.hid (in_done0 hG4.out (a : Int) rfl)
    go_region
    all_goals go_wp2
    all_goals
      go_ret
      refine FIN.out _ _ R4 e4 (D0.out.1.drew 1) (by simpa using hgs4.out) ?_ rfl
      exact ⟨D0.out.2.os, D0.out.2.tape, D0.out.2.output, D0.out.2.size, D0.out.2.block⟩
  · have hlp : 0 < l.length := List.length_pos_iff.2 hl0
    rcases hG4.out.room with ⟨hv, hR⟩ | ⟨r, hv, hrp, hr⟩
    · rw [hR] at h2; simp at h2; omega
    · subst hv
      cases b with
      | none => obtain ⟨_, _, e0, _⟩ := HKS.out 0 hlp; cases e0
      | some ad =>
        have hne : ¬ e4 = a := by omega
        have hnn : l.length ≤ e4 - a := hn
        have cp : (Builtin.copy_ #[28, 28] 3 #[.slice (some ⟨r, a * 2, none⟩) (e4 - a) (R4.length - a), .slice (some ad) l.length c]).run Try.prog w4.drew = .ok (goInt l.length) (w4.drew.setRow r (sRow (cpL R4 a l))) :=
          copy_signs (w := w4.drew) 3 (o := a) (dl := e4 - a) (dc := R4.length - a) hr HKS.out (by omega) hnn
        have D0 := Lib.hid (in_done (hG4.out.drew 1) hnn ((a : Int) + (l.length : Int)) rfl)
        have hgi := Lib.hid ((in_gs R4 a e4 l h1 h2 hnn).trans (by rw [hgs4.out]))
        have hrl := blk_lt hr
        clear hr
        have hcr := fun L => cell_setRow_other w4.drew r (sRow L) ⟨p, 2, none⟩ (Ne.symm hrp)
        have hfr : (w4.drew.setRow r (sRow (cpL R4 a l))).frozen? ⟨p, 2, none⟩ = false := by
          have hb : (w4.drew.setRow r (sRow (cpL R4 a l))).heap[p]? = _ := (setRow_other w4.drew r p _ (Ne.symm hrp)).trans hG4.out.blk
          exact frozen_of_row _ p 2 _ _ hb
        have hcc : (w4.drew.setRow r (sRow (cpL R4 a l))).cell? ⟨p, 2, none⟩ = some (.int .i64 (a : Int)) := (hcr _).trans c2
        clear hcr
        go_region
        go_wp2
        go_ret
        exact FIN.out _ _ _ _ D0.out.1 hgi.out D0.out.2 rfl
end Go.Proofs.Ytfmcgdjjcdlmeaa
