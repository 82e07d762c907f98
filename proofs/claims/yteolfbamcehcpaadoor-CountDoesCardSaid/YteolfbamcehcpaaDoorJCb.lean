/-
  Joined: Ct2 Ct3.
-/
import Derived.Test.YteolfbamcehcpaaDoorJCa
import Derived.Test.YteolfbamcehcpaaDoorKy18
set_option maxRecDepth 100000
set_option linter.unusedVariables false
set_option linter.unusedSimpArgs false
namespace Go.Proofs.YteolfbamcehcpaaDoor
set_option linter.unusedVariables false
set_option linter.unusedSimpArgs false
open Go.RowKit
theorem cgb_of {w w' : World} (h : Below w.heap.size w w') (r : Option Nat) : w.grownBy w' r := ⟨h.os, h.tape, h.output, h.size, fun k hk _ => h.block k hk⟩
theorem cgb_set {w w' : World} {q : Nat} (h : w.grownBy w' (some q)) (i : Nat) (v : Value) : w.grownBy (w'.setCell ⟨q, i, none⟩ v) (some q) :=
  ⟨h.os, h.tape, h.output, by have := h.size; simpa [World.setCell] using this, fun k hk hne => (Below.heap_setCell _ _ _ _ (fun e => hne (by rw [e]))).trans (h.block k hk hne)⟩
def DoPost (p : Nat) (s : Cs) (k : Ky) (w : World) (e : Ending) (w' : World) : Prop := e = .returned (.bool (doC s k).2) ∧ CtAt p (doC s k).1 w' ∧ w.grownBy w' (some p)
theorem doPost_of {p : Nat} {s s' : Cs} {b : Bool} {k : Ky} {w w' : World} (h : doC s k = (s', b)) (h1 : CtAt p s' w') (h2 : w.grownBy w' (some p)) : DoPost p s k w (.returned (.bool b)) w' := by
  unfold DoPost; rw [h]; exact ⟨rfl, h1, h2⟩
set_option maxHeartbeats 8000000 in
set_option maxRecDepth 100000 in
theorem ctdo_any (p : Nat) (s : Cs) (k : Ky) (w : World) (hK : KT w) (hp : CtAt p s w) (hn0 : 0 ≤ s.2.2.1) (hn1 : s.2.2.1 ≤ 9999) : Calls Tryd.prog 24 #[.pointer (some ⟨p, 0, none⟩), .agg #[.int .i64 k.1, .int .i64 k.2.1, .string k.2.2.1, .bool k.2.2.2]] w (DoPost p s k w) := by
  obtain ⟨a, b, n, c⟩ := s
  obtain ⟨kind, v, t, cc⟩ := k
  have HD : ∀ s' b', doC (a, b, n, c) (kind, v, t, cc) = (s', b') → ∀ w', CtAt p s' w' → w.grownBy w' (some p) → DoPost p (a, b, n, c) (kind, v, t, cc) w (.returned (.bool b')) w' := fun s' b' h w' h1 h2 => doPost_of h h1 h2
  have hD : doC (a, b, n, c) (kind, v, t, cc) = if keyB (kind, v, t, cc) = false then ((a, b, n, c), false) else if rdB (kind, v, t, cc) 3 = true then (csWith (a, b, n, c) (v - 48), true) else if rdB (kind, v, t, cc) 1 = true ∧ csBg (a, b, n, c) = true then (csWith (a, b, n, c) (v - 48), true) else if kind = 3 ∧ v = 45 ∧ b = false then (csMinus (a, b, n, c), true) else ((a, b, n, c), false) := rfl
  rw [hD] at HD
  clear hD
  dsimp only at hn0 hn1 ⊢
  have B0 := below_alloc w (.cells #[.int .i64 kind, .int .i64 v, .string t, .bool cc] 23)
  have Q0 := Lib.hid (heap_alloc_new w (.cells #[.int .i64 kind, .int .i64 v, .string t, .bool cc] 23))
  have HK := Lib.hid (hK.below B0)
  have hpl : p < w.heap.size := blk_lt hp
  have CH := fun w hK er h => kcheck_t (kind, v, t, cc) w hK er h
  have RD := Lib.hid fun w => ctreader_any (kind, v, t, cc) w
  have D3 := fun q w h0 h1 => ctdigit_any (kind, v, t, cc) 3 q w h0 h1
  have D1 := fun q w h0 h1 => ctdigit_any (kind, v, t, cc) 1 q w h0 h1
  have BG := fun w => ctbg_any (a, b, n, c) w
  have e3 : rdB (kind, v, t, cc) 3 = true → kind = 3 ∧ 48 ≤ v ∧ v ≤ 57 := fun h => of_decide_eq_true h
  have e1 : rdB (kind, v, t, cc) 1 = true → kind = 1 ∧ 48 ≤ v ∧ v ≤ 57 := fun h => of_decide_eq_true h
  have v3 : rdV (kind, v, t, cc) 3 = if rdB (kind, v, t, cc) 3 then v - 48 else 0 := rfl
  have v1 : rdV (kind, v, t, cc) 1 = if rdB (kind, v, t, cc) 1 then v - 48 else 0 := rfl
  rw [v3] at D3
  rw [v1] at D1
  clear v3 v1 hK
  cases hk : keyB (kind, v, t, cc) with
  | false =>
    rw [hk, if_pos rfl] at HD
    have HD := Lib.hid (HD _ _ rfl)
    have CH := Lib.hid fun w hK => CH w hK 2 (ckE_no hk)
    clear hk D3 D1 e3 e1
    go_enter Tryd.func24, Tryd.ntmps24
    go_wp2_with (first
      | (go_at_call 14; refine (CH.out _ HK.out).mono ?_; rintro e w1 ⟨rfl, hb1⟩; have N1 := Lib.hid (seqB B0 hb1); have q1 := blk_below Q0.out hb1; have yy := fun i => cell_of_row _ _ i _ _ _ q1; have y0 := yy 0; have y1 := yy 1; have y2 := yy 2; have y3 := yy 3; dsimp at y0 y1 y2 y3; clear yy; have q1 := Lib.hid q1))
    go_ret
    exact HD.out _ (blk_below hp N1.out) (cgb_of N1.out _)
  | true =>
    rw [hk, if_neg (by decide)] at HD
    have CH := Lib.hid fun w hK => CH w hK 0 (ckE_yes hk)
    clear hk
    cases h3 : rdB (kind, v, t, cc) 3 with
    | true =>
      obtain ⟨rfl, hv0, hv1⟩ := e3 h3
      rw [h3, if_pos rfl] at HD D3
      have HD := Lib.hid (HD _ _ rfl)
      have WI := Lib.hid fun w => ctwith_any a b c n (v - 48) w hn0 hn1 (by omega) (by omega)
      replace D3 := Lib.hid D3; replace D1 := Lib.hid D1; replace BG := Lib.hid BG
      clear h3 e3 e1
      go_enter Tryd.func24, Tryd.ntmps24
      go_wp2_with (first
        | (go_at_call 14; refine (CH.out _ HK.out).mono ?_; rintro e w1 ⟨rfl, hb1⟩; have N1 := Lib.hid (seqB B0 hb1); have q1 := blk_below Q0.out hb1; have yy := fun i => cell_of_row _ _ i _ _ _ q1; have y0 := yy 0; have y1 := yy 1; have y2 := yy 2; have y3 := yy 3; dsimp at y0 y1 y2 y3; clear yy; have q1 := Lib.hid q1)
        | (go_at_call 58; refine (RD.out _).mono ?_; rintro e w2 ⟨rfl, hw2⟩; have B2 := below_alloc w1 (.cells #[.int .i64 3, .int .i64 v, .string t, .bool cc] 23); have r2 := heap_alloc_new w1 (.cells #[.int .i64 3, .int .i64 v, .string t, .bool cc] 23); rw [hw2] at B2 r2; have N2 := Lib.hid (seqB N1.out B2); have p2 : CtAt p (a, b, n, c) w2 := blk_below hp N2.out; have rr := fun i => cell_of_row _ _ i _ _ _ r2; have r0 := Lib.hid (rr 0); have r1 := Lib.hid (rr 1); have pp := fun i => cell_of_row _ _ i _ _ _ p2; have c0 := pp 0; have c1 := pp 1; have c2 := pp 2; have c3 := pp 3; dsimp [csRow] at c0 c1 c2 c3; have zf2 := fun i => frozen_of_row _ p i _ _ p2; have q2 := blk_below q1.out B2; have uu := fun i => cell_of_row _ _ i _ _ _ q2; have u0 := uu 0; have u1 := uu 1; dsimp at u0 u1; clear rr pp r2 hw2 y0 y1 y2 y3 q2 uu q1; have p2 := Lib.hid p2)
        | (go_at_call 86; (with_reducible refine (D3.out _ _ r0.out r1.out).mono ?_); rintro e w3 ⟨rfl, rfl⟩)
        | (go_at_call 59; refine (WI.out _).mono ?_; rintro e w5 ⟨rfl, hb5⟩; have N5 := Lib.hid (seqB N2.out hb5); have p5 := blk_below p2.out hb5; have pp := fun i => cell_of_row _ _ i _ _ _ p5; have z0 := pp 0; have z1 := pp 1; have z2 := pp 2; have z3 := pp 3; dsimp [csRow] at z0 z1 z2 z3; have zf := fun i => frozen_of_row _ p i _ _ p5; have hfin := Lib.hid (four_set p5 (.bool true) (.bool true) (.int .i64 (min (n * 10 + (v - 48)) 9999)) (.bool c)); have GF := Lib.hid (cgb_set (cgb_set (cgb_set (cgb_set (cgb_of N5.out (some p)) 0 (.bool true)) 1 (.bool true)) 2 (.int .i64 (min (n * 10 + (v - 48)) 9999))) 3 (.bool c)); clear pp p5 c0 c1 c2 c3))
      go_ret
      exact HD.out _ hfin.out GF.out
    | false =>
      rw [h3, if_neg (by decide)] at HD D3
      replace D3 := Lib.hid D3
      clear e3
      cases h1 : rdB (kind, v, t, cc) 1 with
      | true =>
        obtain ⟨rfl, hv0, hv1⟩ := e1 h1
        rw [h1] at HD D1
        rw [if_pos rfl] at D1
        have WI := Lib.hid fun w => ctwith_any a b c n (v - 48) w hn0 hn1 (by omega) (by omega)
        clear h3 h1 e1
        cases hg : csBg (a, b, n, c) with
        | true =>
          rw [hg] at HD BG
          rw [if_pos ⟨rfl, rfl⟩] at HD
          have HD := Lib.hid (HD _ _ rfl)
          replace D1 := Lib.hid D1; replace BG := Lib.hid BG
          clear hg
          go_enter Tryd.func24, Tryd.ntmps24
          go_wp2_with (first
            | (go_at_call 14; refine (CH.out _ HK.out).mono ?_; rintro e w1 ⟨rfl, hb1⟩; have N1 := Lib.hid (seqB B0 hb1); have q1 := blk_below Q0.out hb1; have yy := fun i => cell_of_row _ _ i _ _ _ q1; have y0 := yy 0; have y1 := yy 1; have y2 := yy 2; have y3 := yy 3; dsimp at y0 y1 y2 y3; clear yy; have q1 := Lib.hid q1)
            | (go_at_call 58; refine (RD.out _).mono ?_; rintro e w2 ⟨rfl, hw2⟩; have B2 := below_alloc w1 (.cells #[.int .i64 1, .int .i64 v, .string t, .bool cc] 23); have r2 := heap_alloc_new w1 (.cells #[.int .i64 1, .int .i64 v, .string t, .bool cc] 23); rw [hw2] at B2 r2; have N2 := Lib.hid (seqB N1.out B2); have p2 : CtAt p (a, b, n, c) w2 := blk_below hp N2.out; have rr := fun i => cell_of_row _ _ i _ _ _ r2; have r0 := Lib.hid (rr 0); have r1 := Lib.hid (rr 1); have pp := fun i => cell_of_row _ _ i _ _ _ p2; have c0 := pp 0; have c1 := pp 1; have c2 := pp 2; have c3 := pp 3; dsimp [csRow] at c0 c1 c2 c3; have zf2 := fun i => frozen_of_row _ p i _ _ p2; have q2 := blk_below q1.out B2; have uu := fun i => cell_of_row _ _ i _ _ _ q2; have u0 := uu 0; have u1 := uu 1; dsimp at u0 u1; clear rr pp r2 hw2 y0 y1 y2 y3 q2 uu q1; have p2 := Lib.hid p2)
            | (go_at_call 86; (with_reducible refine (D3.out _ _ r0.out r1.out).mono ?_); rintro e w3 ⟨rfl, rfl⟩)
            | (go_at_call 86; (with_reducible refine (D1.out _ _ r0.out r1.out).mono ?_); rintro e w3 ⟨rfl, rfl⟩)
            | (go_at_call 60; refine (BG.out _).mono ?_; rintro e w4 ⟨rfl, hb4⟩; have N4 := Lib.hid (seqB N2.out hb4); have p4 := blk_below p2.out hb4; have pp := fun i => cell_of_row _ _ i _ _ _ p4; clear c0 c1 c2 c3 zf2; have c0 := pp 0; have c1 := pp 1; have c2 := pp 2; have c3 := pp 3; dsimp [csRow] at c0 c1 c2 c3; have zf2 := fun i => frozen_of_row _ p i _ _ p4; clear pp u0 u1; have q4 := blk_below (blk_below Q0.out (seqB hb1 B2)) hb4; have uu := fun i => cell_of_row _ _ i _ _ _ q4; have u0 := uu 0; have u1 := uu 1; dsimp at u0 u1; clear uu q4; have p4 := Lib.hid p4)
            | (go_at_call 59; refine (WI.out _).mono ?_; rintro e w5 ⟨rfl, hb5⟩; have N5 := Lib.hid (seqB N4.out hb5); have p5 := blk_below p4.out hb5; have pp := fun i => cell_of_row _ _ i _ _ _ p5; have z0 := pp 0; have z1 := pp 1; have z2 := pp 2; have z3 := pp 3; dsimp [csRow] at z0 z1 z2 z3; have zf := fun i => frozen_of_row _ p i _ _ p5; have hfin := Lib.hid (four_set p5 (.bool true) (.bool true) (.int .i64 (min (n * 10 + (v - 48)) 9999)) (.bool c)); have GF := Lib.hid (cgb_set (cgb_set (cgb_set (cgb_set (cgb_of N5.out (some p)) 0 (.bool true)) 1 (.bool true)) 2 (.int .i64 (min (n * 10 + (v - 48)) 9999))) 3 (.bool c)); clear pp p5 c0 c1 c2 c3))
          go_ret
          exact HD.out _ hfin.out GF.out
        | false =>
          rw [hg] at HD BG
          rw [if_neg (by simp), if_neg (by omega)] at HD
          have HD := Lib.hid (HD _ _ rfl)
          replace D1 := Lib.hid D1; replace BG := Lib.hid BG
          clear hg
          go_enter Tryd.func24, Tryd.ntmps24
          go_wp2_with (first
            | (go_at_call 14; refine (CH.out _ HK.out).mono ?_; rintro e w1 ⟨rfl, hb1⟩; have N1 := Lib.hid (seqB B0 hb1); have q1 := blk_below Q0.out hb1; have yy := fun i => cell_of_row _ _ i _ _ _ q1; have y0 := yy 0; have y1 := yy 1; have y2 := yy 2; have y3 := yy 3; dsimp at y0 y1 y2 y3; clear yy; have q1 := Lib.hid q1)
            | (go_at_call 58; refine (RD.out _).mono ?_; rintro e w2 ⟨rfl, hw2⟩; have B2 := below_alloc w1 (.cells #[.int .i64 1, .int .i64 v, .string t, .bool cc] 23); have r2 := heap_alloc_new w1 (.cells #[.int .i64 1, .int .i64 v, .string t, .bool cc] 23); rw [hw2] at B2 r2; have N2 := Lib.hid (seqB N1.out B2); have p2 : CtAt p (a, b, n, c) w2 := blk_below hp N2.out; have rr := fun i => cell_of_row _ _ i _ _ _ r2; have r0 := Lib.hid (rr 0); have r1 := Lib.hid (rr 1); have pp := fun i => cell_of_row _ _ i _ _ _ p2; have c0 := pp 0; have c1 := pp 1; have c2 := pp 2; have c3 := pp 3; dsimp [csRow] at c0 c1 c2 c3; have zf2 := fun i => frozen_of_row _ p i _ _ p2; have q2 := blk_below q1.out B2; have uu := fun i => cell_of_row _ _ i _ _ _ q2; have u0 := uu 0; have u1 := uu 1; dsimp at u0 u1; clear rr pp r2 hw2 y0 y1 y2 y3 q2 uu q1; have p2 := Lib.hid p2)
            | (go_at_call 86; (with_reducible refine (D3.out _ _ r0.out r1.out).mono ?_); rintro e w3 ⟨rfl, rfl⟩)
            | (go_at_call 86; (with_reducible refine (D1.out _ _ r0.out r1.out).mono ?_); rintro e w3 ⟨rfl, rfl⟩)
            | (go_at_call 60; refine (BG.out _).mono ?_; rintro e w4 ⟨rfl, hb4⟩; have N4 := Lib.hid (seqB N2.out hb4); have p4 := blk_below p2.out hb4; have pp := fun i => cell_of_row _ _ i _ _ _ p4; clear c0 c1 c2 c3 zf2; have c0 := pp 0; have c1 := pp 1; have c2 := pp 2; have c3 := pp 3; dsimp [csRow] at c0 c1 c2 c3; have zf2 := fun i => frozen_of_row _ p i _ _ p4; clear pp u0 u1; have q4 := blk_below (blk_below Q0.out (seqB hb1 B2)) hb4; have uu := fun i => cell_of_row _ _ i _ _ _ q4; have u0 := uu 0; have u1 := uu 1; dsimp at u0 u1; clear uu q4; have p4 := Lib.hid p4))
          go_ret
          exact HD.out _ p4.out (cgb_of N4.out _)
      | false =>
        rw [h1] at HD D1
        rw [if_neg (by decide)] at D1
        rw [if_neg (by simp)] at HD
        replace D1 := Lib.hid D1; replace BG := Lib.hid BG
        clear h3 h1 e1
        by_cases hk3 : kind = 3
        · subst hk3
          by_cases h45 : v = 45
          · subst h45
            cases b with
            | false =>
              rw [if_pos ⟨rfl, rfl, rfl⟩] at HD
              have HD := Lib.hid (HD _ _ rfl)
              go_enter Tryd.func24, Tryd.ntmps24
              go_wp2_with (first
                | (go_at_call 14; refine (CH.out _ HK.out).mono ?_; rintro e w1 ⟨rfl, hb1⟩; have N1 := Lib.hid (seqB B0 hb1); have q1 := blk_below Q0.out hb1; have yy := fun i => cell_of_row _ _ i _ _ _ q1; have y0 := yy 0; have y1 := yy 1; have y2 := yy 2; have y3 := yy 3; dsimp at y0 y1 y2 y3; clear yy; have q1 := Lib.hid q1)
                | (go_at_call 58; refine (RD.out _).mono ?_; rintro e w2 ⟨rfl, hw2⟩; have B2 := below_alloc w1 (.cells #[.int .i64 3, .int .i64 45, .string t, .bool cc] 23); have r2 := heap_alloc_new w1 (.cells #[.int .i64 3, .int .i64 45, .string t, .bool cc] 23); rw [hw2] at B2 r2; have N2 := Lib.hid (seqB N1.out B2); have p2 : CtAt p (a, false, n, c) w2 := blk_below hp N2.out; have rr := fun i => cell_of_row _ _ i _ _ _ r2; have r0 := Lib.hid (rr 0); have r1 := Lib.hid (rr 1); have pp := fun i => cell_of_row _ _ i _ _ _ p2; have c0 := pp 0; have c1 := pp 1; have c2 := pp 2; have c3 := pp 3; dsimp [csRow] at c0 c1 c2 c3; have zf2 := fun i => frozen_of_row _ p i _ _ p2; have q2 := blk_below q1.out B2; have uu := fun i => cell_of_row _ _ i _ _ _ q2; have u0 := uu 0; have u1 := uu 1; dsimp at u0 u1; clear rr pp r2 hw2 y0 y1 y2 y3 q2 uu q1; have GF := Lib.hid (cgb_set (cgb_set (cgb_of N2.out (some p)) 0 (.bool true)) 3 (.bool (!c))); have hfin := Lib.hid (blk_set (blk_set p2 0 (.bool true)) 3 (.bool (!c))); have p2 := Lib.hid p2)
                | (go_at_call 86; (with_reducible refine (D3.out _ _ r0.out r1.out).mono ?_); rintro e w3 ⟨rfl, rfl⟩)
                | (go_at_call 86; (with_reducible refine (D1.out _ _ r0.out r1.out).mono ?_); rintro e w3 ⟨rfl, rfl⟩))
              go_ret
              exact HD.out _ hfin.out GF.out
            | true =>
              rw [if_neg (by simp)] at HD
              have HD := Lib.hid (HD _ _ rfl)
              go_enter Tryd.func24, Tryd.ntmps24
              go_wp2_with (first
                | (go_at_call 14; refine (CH.out _ HK.out).mono ?_; rintro e w1 ⟨rfl, hb1⟩; have N1 := Lib.hid (seqB B0 hb1); have q1 := blk_below Q0.out hb1; have yy := fun i => cell_of_row _ _ i _ _ _ q1; have y0 := yy 0; have y1 := yy 1; have y2 := yy 2; have y3 := yy 3; dsimp at y0 y1 y2 y3; clear yy; have q1 := Lib.hid q1)
                | (go_at_call 58; refine (RD.out _).mono ?_; rintro e w2 ⟨rfl, hw2⟩; have B2 := below_alloc w1 (.cells #[.int .i64 3, .int .i64 45, .string t, .bool cc] 23); have r2 := heap_alloc_new w1 (.cells #[.int .i64 3, .int .i64 45, .string t, .bool cc] 23); rw [hw2] at B2 r2; have N2 := Lib.hid (seqB N1.out B2); have p2 : CtAt p (a, true, n, c) w2 := blk_below hp N2.out; have rr := fun i => cell_of_row _ _ i _ _ _ r2; have r0 := Lib.hid (rr 0); have r1 := Lib.hid (rr 1); have pp := fun i => cell_of_row _ _ i _ _ _ p2; have c0 := pp 0; have c1 := pp 1; have c2 := pp 2; have c3 := pp 3; dsimp [csRow] at c0 c1 c2 c3; have zf2 := fun i => frozen_of_row _ p i _ _ p2; have q2 := blk_below q1.out B2; have uu := fun i => cell_of_row _ _ i _ _ _ q2; have u0 := uu 0; have u1 := uu 1; dsimp at u0 u1; clear rr pp r2 hw2 y0 y1 y2 y3 q2 uu q1; have p2 := Lib.hid p2)
                | (go_at_call 86; (with_reducible refine (D3.out _ _ r0.out r1.out).mono ?_); rintro e w3 ⟨rfl, rfl⟩)
                | (go_at_call 86; (with_reducible refine (D1.out _ _ r0.out r1.out).mono ?_); rintro e w3 ⟨rfl, rfl⟩))
              go_ret
              exact HD.out _ p2.out (cgb_of N2.out _)
          · rw [if_neg (by omega)] at HD
            have HD := Lib.hid (HD _ _ rfl)
            go_enter Tryd.func24, Tryd.ntmps24
            go_wp2_with (first
              | (go_at_call 14; refine (CH.out _ HK.out).mono ?_; rintro e w1 ⟨rfl, hb1⟩; have N1 := Lib.hid (seqB B0 hb1); have q1 := blk_below Q0.out hb1; have yy := fun i => cell_of_row _ _ i _ _ _ q1; have y0 := yy 0; have y1 := yy 1; have y2 := yy 2; have y3 := yy 3; dsimp at y0 y1 y2 y3; clear yy; have q1 := Lib.hid q1)
              | (go_at_call 58; refine (RD.out _).mono ?_; rintro e w2 ⟨rfl, hw2⟩; have B2 := below_alloc w1 (.cells #[.int .i64 3, .int .i64 v, .string t, .bool cc] 23); have r2 := heap_alloc_new w1 (.cells #[.int .i64 3, .int .i64 v, .string t, .bool cc] 23); rw [hw2] at B2 r2; have N2 := Lib.hid (seqB N1.out B2); have p2 : CtAt p (a, b, n, c) w2 := blk_below hp N2.out; have rr := fun i => cell_of_row _ _ i _ _ _ r2; have r0 := Lib.hid (rr 0); have r1 := Lib.hid (rr 1); have pp := fun i => cell_of_row _ _ i _ _ _ p2; have c0 := pp 0; have c1 := pp 1; have c2 := pp 2; have c3 := pp 3; dsimp [csRow] at c0 c1 c2 c3; have zf2 := fun i => frozen_of_row _ p i _ _ p2; have q2 := blk_below q1.out B2; have uu := fun i => cell_of_row _ _ i _ _ _ q2; have u0 := uu 0; have u1 := uu 1; dsimp at u0 u1; clear rr pp r2 hw2 y0 y1 y2 y3 q2 uu q1; have p2 := Lib.hid p2)
              | (go_at_call 86; (with_reducible refine (D3.out _ _ r0.out r1.out).mono ?_); rintro e w3 ⟨rfl, rfl⟩)
              | (go_at_call 86; (with_reducible refine (D1.out _ _ r0.out r1.out).mono ?_); rintro e w3 ⟨rfl, rfl⟩))
            go_ret
            exact HD.out _ p2.out (cgb_of N2.out _)
        · rw [if_neg (by omega)] at HD
          have HD := Lib.hid (HD _ _ rfl)
          go_enter Tryd.func24, Tryd.ntmps24
          go_wp2_with (first
            | (go_at_call 14; refine (CH.out _ HK.out).mono ?_; rintro e w1 ⟨rfl, hb1⟩; have N1 := Lib.hid (seqB B0 hb1); have q1 := blk_below Q0.out hb1; have yy := fun i => cell_of_row _ _ i _ _ _ q1; have y0 := yy 0; have y1 := yy 1; have y2 := yy 2; have y3 := yy 3; dsimp at y0 y1 y2 y3; clear yy; have q1 := Lib.hid q1)
            | (go_at_call 58; refine (RD.out _).mono ?_; rintro e w2 ⟨rfl, hw2⟩; have B2 := below_alloc w1 (.cells #[.int .i64 kind, .int .i64 v, .string t, .bool cc] 23); have r2 := heap_alloc_new w1 (.cells #[.int .i64 kind, .int .i64 v, .string t, .bool cc] 23); rw [hw2] at B2 r2; have N2 := Lib.hid (seqB N1.out B2); have p2 : CtAt p (a, b, n, c) w2 := blk_below hp N2.out; have rr := fun i => cell_of_row _ _ i _ _ _ r2; have r0 := Lib.hid (rr 0); have r1 := Lib.hid (rr 1); have pp := fun i => cell_of_row _ _ i _ _ _ p2; have c0 := pp 0; have c1 := pp 1; have c2 := pp 2; have c3 := pp 3; dsimp [csRow] at c0 c1 c2 c3; have zf2 := fun i => frozen_of_row _ p i _ _ p2; have q2 := blk_below q1.out B2; have uu := fun i => cell_of_row _ _ i _ _ _ q2; have u0 := uu 0; have u1 := uu 1; dsimp at u0 u1; clear rr pp r2 hw2 y0 y1 y2 y3 q2 uu q1; have p2 := Lib.hid p2)
            | (go_at_call 86; (with_reducible refine (D3.out _ _ r0.out r1.out).mono ?_); rintro e w3 ⟨rfl, rfl⟩)
            | (go_at_call 86; (with_reducible refine (D1.out _ _ r0.out r1.out).mono ?_); rintro e w3 ⟨rfl, rfl⟩))
          go_ret
          exact HD.out _ p2.out (cgb_of N2.out _)
end Go.Proofs.YteolfbamcehcpaaDoor
namespace Go.Proofs.YteolfbamcehcpaaDoor
open Go.RowKit
set_option maxHeartbeats 4000000 in
set_option maxRecDepth 100000 in
theorem ctvalue_any (p : Nat) (s : Cs) (w : World) (hp : CtAt p s w) (hn0 : 0 ≤ s.2.2.1) (hn1 : s.2.2.1 ≤ 9999) : Calls Tryd.prog 26 #[.pointer (some ⟨p, 0, none⟩)] w fun e w' => e = .returned (.tuple #[.int .i64 (csVal s), .bool (csBg s)]) ∧ Below w.heap.size w w' := by
  obtain ⟨a, b, n, c⟩ := s
  have BG := fun w => ctbg_any (a, b, n, c) w
  have HV : csVal (a, b, n, c) = if csBg (a, b, n, c) then (if c then -(if b then n else 1) else (if b then n else 1)) else 1 := rfl
  rw [HV]
  have pp := fun i => cell_of_row _ _ i _ _ _ hp
  have c0 := pp 0; have c1 := pp 1; have c2 := pp 2; have c3 := pp 3
  dsimp [csRow] at c0 c1 c2 c3
  dsimp only at hn0 hn1
  clear pp HV
  generalize csBg (a, b, n, c) = g at *
  replace BG := Lib.hid BG
  cases g with
  | false =>
    rw [if_neg (by decide)]
    go_enter Tryd.func26, Tryd.ntmps26
    go_wp2_with (go_at_call 60; refine (BG.out _).mono ?_; rintro e w4 ⟨rfl, hb4⟩)
    go_ret2
    exact ⟨rfl, hb4⟩
  | true =>
    rw [if_pos rfl]
    cases b <;> cases c
    all_goals
      go_enter Tryd.func26, Tryd.ntmps26
      go_wp2_with (go_at_call 60; refine (BG.out _).mono ?_; rintro e w4 ⟨rfl, hb4⟩; have p4 := blk_below hp hb4; have pp := fun i => cell_of_row _ _ i _ _ _ p4; have d0 := pp 0; have d1 := pp 1; have d2 := pp 2; have d3 := pp 3; dsimp [csRow] at d0 d1 d2 d3; clear pp)
      go_ret2
      exact ⟨rfl, hb4⟩
theorem ctvalue_nil (w : World) : Calls Tryd.prog 26 #[.pointer none] w fun e w' => e = .returned (.tuple #[.int .i64 1, .bool false]) ∧ Below w.heap.size w w' := by
  go_enter Tryd.func26, Tryd.ntmps26
  go_wp2
  go_ret2
  exact ⟨rfl, Below.refl _ _⟩
def TkPost (p : Nat) (s : Cs) (w : World) (e : Ending) (w' : World) : Prop := e = .returned (.tuple #[.int .i64 (csVal s), .bool (csBg s)]) ∧ CtAt p cs0 w' ∧ w.grownBy w' (some p)
set_option maxHeartbeats 4000000 in
set_option maxRecDepth 100000 in
theorem cttake_any (p : Nat) (s : Cs) (w : World) (hp : CtAt p s w) (hn0 : 0 ≤ s.2.2.1) (hn1 : s.2.2.1 ≤ 9999) : Calls Tryd.prog 27 #[.pointer (some ⟨p, 0, none⟩)] w (TkPost p s w) := by
  have V := Lib.hid (ctvalue_any p s w hp hn0 hn1)
  have HP : ∀ w', CtAt p cs0 w' → w.grownBy w' (some p) → TkPost p s w (.returned (.tuple #[.int .i64 (csVal s), .bool (csBg s)])) w' := fun w' h1 h2 => ⟨rfl, h1, h2⟩
  generalize csVal s = cv at *
  generalize csBg s = cb at *
  replace HP := Lib.hid HP
  clear hn0 hn1
  go_enter Tryd.func27, Tryd.ntmps27
  go_wp2_with (go_at_call 26; refine V.out.mono ?_; rintro e w5 ⟨rfl, hb5⟩; have p5 := blk_below hp hb5; have pp := fun i => cell_of_row _ _ i _ _ _ p5; have z0 := pp 0; have z1 := pp 1; have z2 := pp 2; have z3 := pp 3; dsimp [csRow] at z0 z1 z2 z3; have zf := fun i => frozen_of_row _ p i _ _ p5; have hfin := Lib.hid (four_set p5 (.bool false) (.bool false) (.int .i64 0) (.bool false)); have GF := Lib.hid (cgb_set (cgb_set (cgb_set (cgb_set (cgb_of hb5 (some p)) 0 (.bool false)) 1 (.bool false)) 2 (.int .i64 0)) 3 (.bool false)); clear pp p5)
  go_ret2
  exact HP.out _ hfin.out GF.out
theorem cttake_nil (w : World) : Calls Tryd.prog 27 #[.pointer none] w fun e w' => e = .returned (.tuple #[.int .i64 1, .bool false]) ∧ Below w.heap.size w w' := by
  have V := Lib.hid fun w => ctvalue_nil w
  go_enter Tryd.func27, Tryd.ntmps27
  go_wp2_with (go_at_call 26; refine (V.out _).mono ?_; rintro e w5 ⟨rfl, hb5⟩)
  go_ret2
  exact ⟨rfl, hb5⟩
theorem ctdo_nil (k : Ky) (w : World) : Calls Tryd.prog 24 #[.pointer none, .agg #[.int .i64 k.1, .int .i64 k.2.1, .string k.2.2.1, .bool k.2.2.2]] w fun e w' => e = .returned (.bool false) ∧ Below w.heap.size w w' := by
  go_enter Tryd.func24, Tryd.ntmps24
  go_wp2
  go_ret
  exact ⟨rfl, below_alloc _ _⟩
end Go.Proofs.YteolfbamcehcpaaDoor
