/-
  Joined: In10 In11 In12 In13 In14 In15 Itm In16 In17 In18.
-/
import Derived.Test.YtdafcjjlkjngmaaDoorJI10
import Derived.Test.YtdafcjjlkjngmaaDoorJI11
import Derived.Test.YtdafcjjlkjngmaaDoorJI12
set_option linter.unusedVariables false
set_option linter.unusedSimpArgs false
set_option maxRecDepth 100000
set_option linter.unusedVariables false
set_option linter.unusedSimpArgs false
namespace Go.Proofs.YtdafcjjlkjngmaaDoor
open Go.RowKit
/-- What a paste ends with. -/
def peL : List UInt8 := [27, 91, 50, 48, 49, 126]
def ipM (m : Nat) (b : UInt8) : Nat := if b = peL.getD m 0 then m + 1 else if b = 27 then 1 else 0
def ipB (s : IS) (b : UInt8) : List UInt8 := if (s.pb.length : Int) < s.most + 6 then s.pb ++ [b] else s.pb
/-- A byte in a paste: the object and the keys. -/
def ipR (s : IS) (b : UInt8) : IS × List Ky :=
  if ipM s.mt b < 6 then ({ s with pb := ipB s b, ct := s.ct + 1, mt := ipM s.mt b }, [])
  else ({ s with pas := false, pb := [], ct := 0, mt := 0 }, [(15, 0, mkL ((ipB s b).take (min ((s.ct : Int) + 1 - 6) s.most).toNat), decide (min ((s.ct : Int) + 1 - 6) s.most < (s.ct : Int) + 1 - 6))])
theorem wrap_id0 (x : Int) (h0 : -9223372036854775808 ≤ x) (h1 : x ≤ 9223372036854775807) : IntKind.i64.wrap x = x := by
  rw [IntKind.wrap_i64]; omega
section
variable {S : Nat → Prop} {p q B : Nat} {s : IS} {K : List Ky} {w w' : World}
set_option maxHeartbeats 16000000 in
theorem inpaste_any (b : UInt8) (h : InS S p q B s K w) (hm : 1 ≤ s.most ∧ s.most ≤ 65536) (hmt : s.mt < 6) (hct : s.mt ≤ s.ct ∧ s.ct ≤ 100000) (hpb : (s.pb.length : Int) = min (s.ct : Int) (s.most + 6)) (hK : K.length ≤ 98900) :
    Calls Tryd.prog 38 #[.pointer (some ⟨p, 0, none⟩), .int .u8 (b.toNat : Int), .func (.func 37) #[] #[.pointer (some ⟨q, 0, none⟩)]] w fun e w' => e = .returned (.tuple #[]) ∧ InS S p q B (ipR s b).1 (K ++ (ipR s b).2) w' ∧ KeptM S w w' := by
  obtain ⟨M, wait, pas, pb, ct, mt⟩ := s
  dsimp only at hm hmt hct hpb
  have hlt : b.toNat < 256 := b.toNat_lt
  have H := Lib.hid h
  obtain ⟨n, hn⟩ : ∃ n, pb.length = n := ⟨_, rfl⟩
  rw [hn] at hpb
  have hn7 : n ≤ 70000 := by
    have h1 : (n : Int) ≤ M + 6 := by rw [hpb]; exact Int.min_le_right _ _
    have h2 := hm.2
    clear hpb
    omega
  have hc9 : (ct : Int) ≤ 100000 := by have := hct.2; clear hpb; omega
  have HPB := Lib.hid hpb
  clear hpb
  obtain ⟨x, hx⟩ : ∃ x : Int, (b.toNat : Int) = x := ⟨_, rfl⟩
  obtain ⟨y, hy⟩ : ∃ y : Int, ((peL.getD mt 0).toNat : Int) = y := ⟨_, rfl⟩
  have ix : ∀ w, (Instr.index 9 (.string ⟨#[27, 91, 50, 48, 49, 126]⟩) (.int .i64 (mt : Int))).run Tryd.prog w = .ok (.int .u8 y) w := fun w => by rw [← hy]; exact idx_run peL mt hmt w
  obtain ⟨bv, hO, c0, _, c2, c3, c4, c5, fz⟩ := h.cells
  dsimp only at hO c0 c2 c3 c4 c5
  obtain ⟨pa, pc, rfl⟩ := hO.form hn
  have WS6 : Hid (IntKind.i64.wrap (M + 6) = M + 6) := Lib.hid (wrap_id0 _ (by omega) (by omega))
  have hbx : Hid (∀ wx : World, (wx.alloc (.cells #[.int .u8 x] 5)).cell? ((⟨wx.heap.size, 0, none⟩ : Addr).add 0) = some (.int .u8 (b.toNat : Int))) := Lib.hid (fun wx => by
    rw [hx, show (⟨wx.heap.size, 0, none⟩ : Addr).add 0 = ⟨wx.heap.size, 0, none⟩ from rfl]; exact kcell wx (.int .u8 x) 5)
  have TL := Lib.hid (fun (s : IS) w k h => tellk_any (S := S) (p := p) (q := q) (B := B) (s := s) (K := K) (w := w) k h (by omega))
  have HN := Lib.hid hn
  rw [hx]
  have hpeq : b = peL.getD mt 0 ↔ x = y := by
    rw [← hx, ← hy]
    exact ⟨fun e => by rw [e], fun e => UInt8.toNat_inj.1 (Int.ofNat_inj.1 e)⟩
  have hb27 : b = 27 ↔ x = 27 := by
    rw [← hx]
    refine ⟨fun e => by subst e; rfl, fun e => ?_⟩
    have h2 : b.toNat = 27 := by omega
    exact UInt8.toNat_inj.1 h2
  by_cases hA : (n : Int) < M + 6
  · have eB : ipB ⟨M, wait, pas, pb, ct, mt⟩ b = pb ++ [b] := by unfold ipB; rw [if_pos (by dsimp only; rw [HN.out]; exact hA)]
    by_cases hxy : x = y
    · have em : ipM mt b = mt + 1 := by unfold ipM; rw [if_pos (hpeq.2 hxy)]
      subst hxy
      by_cases h6 : mt + 1 < 6
      · have e : ipR ⟨M, wait, pas, pb, ct, mt⟩ b = (⟨M, wait, pas, pb ++ [b], ct + 1, mt + 1⟩, []) := by unfold ipR; dsimp only; rw [em, if_pos h6, eB]
        rw [e, List.append_nil]
        have h6i : (mt : Int) + 1 < 6 := by omega
        clear h hct hK hpeq hb27 hlt hx hy e em eB TL
        go_enter Tryd.func38, Tryd.ntmps38
        go_upto_region 1 with fail
        have ws6 := WS6.out
        go_quiet (fail)
        clear ws6
        have B0 : Below w.heap.size w (w.drewN nq) := ⟨rfl, rfl, rfl, Nat.le_refl _, fun _ _ => rfl⟩
        obtain ⟨W, hW⟩ : ∃ W, w.drewN nq = W := ⟨_, rfl⟩
        rw [hW] at B0 ⊢
        have H0 := Lib.hid (H.out.below B0)
        have K0 := Lib.hid (KeptM.of (S := S) B0 H.out.lt)
        have d0 := (B0.cell (p := ⟨p, 0, none⟩) H.out.p_lt.1).trans c0
        have d2 := (B0.cell (p := ⟨p, 2, none⟩) H.out.p_lt.1).trans c2
        have d3 := (B0.cell (p := ⟨p, 3, none⟩) H.out.p_lt.1).trans c3
        have d4 := (B0.cell (p := ⟨p, 4, none⟩) H.out.p_lt.1).trans c4
        have d5 := (B0.cell (p := ⟨p, 5, none⟩) H.out.p_lt.1).trans c5
        have O0 := Lib.hid (hO.below B0)
        clear hW B0 c0 c2 c3 c4 c5 fz hO
        have B1 := below_alloc W (.cells #[.int .u8 x] 5)
        have H1 := Lib.hid (H0.out.below B1)
        have O1 := Lib.hid (O0.out.below B1)
        have K1 := Lib.hid (K0.out.trans (KeptM.of (S := S) B1 H0.out.lt))
        have e3 := Lib.hid ((B1.cell (p := ⟨p, 3, none⟩) H0.out.p_lt.1).trans d3)
        clear B1
        go_wp2_with (at_builtin; refine wpList_app_u8 rfl _ _ rfl _ n pb rfl HN.out O1.out ⟨W.heap.size, 0, none⟩ b rfl (hbx.out W) ?g4 ?_)
        case g4 => omega
        intro ad5 c5 w5 o5 g5 p5
        have HF := Lib.hid (InS.putB H1.out e3.out (L := pb ++ [b]) o5 g5 (fun k h => (p5 k h).imp id (fun h => by simpa using h)))
        have HB := Lib.hid HF.out.1
        have KB := Lib.hid (K1.out.trans HF.out.2)
        obtain ⟨bv', kv', z1, z2, _⟩ := H1.out.ex
        have y3 := cell_of_row _ _ 3 _ _ _ z1
        rw [e3.out] at y3
        obtain rfl : bv' = .slice pa n pc := by simpa [inC] using y3.symm
        have z5 := (g5.block p H1.out.p_lt.1 (fun e => own_ne_kind z2 z1 tIn_ne_u e.symm)).trans z1
        have yy := fun i => cell_of_row _ _ i _ _ _ z5
        have f0 := yy 0; have f2 := yy 2; have f3 := yy 3; have f4 := yy 4; have f5 := yy 5
        dsimp [inC] at f0 f2 f3 f4 f5
        have ff := fun i => frozen_of_row _ p i _ _ z5
        have ff2 := ff 2; have ff3 := ff 3; have ff4 := ff 4; have ff5 := ff 5
        have Z5 := Lib.hid z5
        clear z1 z2 z5 yy y3 ff o5 g5 p5 d0 d2 d3 d4 d5 e3 HF K1 K0
        have C1 := Lib.hid (HB.out.setC 4 (.int .i64 ((ct : Int) + 1)) ⟨M, wait, pas, pb ++ [b], ct + 1, mt⟩ (fun _ => rfl) rfl)
        have C2 := Lib.hid (C1.out.1.setC 5 (.int .i64 ((mt : Int) + 1)) ⟨M, wait, pas, pb ++ [b], ct + 1, mt + 1⟩ (fun _ => rfl) rfl)
        go_wp2
        refine bodyPost_ret (results_none rfl _ _ _) rfl ?_
        exact ⟨rfl, C2.out.1, (KB.out.trans C1.out.2).trans C2.out.2⟩
      · obtain rfl : mt = 5 := by omega
        obtain ⟨d, hd⟩ : ∃ d : Int, (ct : Int) + 1 - 6 = d := ⟨_, rfl⟩
        have hd0 : 0 ≤ d := by have := hct.1; omega
        have e : ipR ⟨M, wait, pas, pb, ct, 5⟩ b = (⟨M, wait, false, [], 0, 0⟩, [(15, 0, mkL ((pb ++ [b]).take (min d M).toNat), decide (min d M < d))]) := by unfold ipR; dsimp only; rw [em, if_neg h6, eB, hd]
        rw [e]
        have hne : pb ++ [b] ≠ [] := by
          intro e0
          have := congrArg List.length e0
          simp at this
        have hpl : (pb ++ [b]).length = n + 1 := by rw [List.length_append, HN.out]; rfl
        have hk1 : min d M ≤ (((pb ++ [b]).length : Nat) : Int) := by rw [hpl]; have := HPB.out; omega
        have hk0 : 0 ≤ min d M := by omega
        have ix5 : ∀ w, (Instr.index 9 (.string ⟨#[27, 91, 50, 48, 49, 126]⟩) (.int .i64 5)).run Tryd.prog w = .ok (.int .u8 x) w := ix
        clear h hct hK hpeq hb27 hlt hx hy e em eB h6
        go_enter Tryd.func38, Tryd.ntmps38
        go_upto_region 1 with fail
        have ws6 := WS6.out
        go_quiet (fail)
        clear ws6
        have B0 : Below w.heap.size w (w.drewN nq) := ⟨rfl, rfl, rfl, Nat.le_refl _, fun _ _ => rfl⟩
        obtain ⟨W, hW⟩ : ∃ W, w.drewN nq = W := ⟨_, rfl⟩
        rw [hW] at B0 ⊢
        have H0 := Lib.hid (H.out.below B0)
        have K0 := Lib.hid (KeptM.of (S := S) B0 H.out.lt)
        have d0 := (B0.cell (p := ⟨p, 0, none⟩) H.out.p_lt.1).trans c0
        have d2 := (B0.cell (p := ⟨p, 2, none⟩) H.out.p_lt.1).trans c2
        have d3 := (B0.cell (p := ⟨p, 3, none⟩) H.out.p_lt.1).trans c3
        have d4 := (B0.cell (p := ⟨p, 4, none⟩) H.out.p_lt.1).trans c4
        have d5 := (B0.cell (p := ⟨p, 5, none⟩) H.out.p_lt.1).trans c5
        have O0 := Lib.hid (hO.below B0)
        clear hW B0 c0 c2 c3 c4 c5 fz hO
        have B1 := below_alloc W (.cells #[.int .u8 x] 5)
        have H1 := Lib.hid (H0.out.below B1)
        have O1 := Lib.hid (O0.out.below B1)
        have K1 := Lib.hid (K0.out.trans (KeptM.of (S := S) B1 H0.out.lt))
        have e3 := Lib.hid ((B1.cell (p := ⟨p, 3, none⟩) H0.out.p_lt.1).trans d3)
        clear B1
        go_wp2_with (at_builtin; refine wpList_app_u8 rfl _ _ rfl _ n pb rfl HN.out O1.out ⟨W.heap.size, 0, none⟩ b rfl (hbx.out W) ?g4 ?_)
        case g4 => omega
        intro ad5 c5 w5 o5 g5 p5
        have HF := Lib.hid (InS.putB H1.out e3.out (L := pb ++ [b]) o5 g5 (fun k h => (p5 k h).imp id (fun h => by simpa using h)))
        have HB := Lib.hid HF.out.1
        have KB := Lib.hid (K1.out.trans HF.out.2)
        obtain ⟨bv', kv', z1, z2, _⟩ := H1.out.ex
        have y3 := cell_of_row _ _ 3 _ _ _ z1
        rw [e3.out] at y3
        obtain rfl : bv' = .slice pa n pc := by simpa [inC] using y3.symm
        have z5 := (g5.block p H1.out.p_lt.1 (fun e => own_ne_kind z2 z1 tIn_ne_u e.symm)).trans z1
        have yy := fun i => cell_of_row _ _ i _ _ _ z5
        have f0 := yy 0; have f2 := yy 2; have f3 := yy 3; have f4 := yy 4; have f5 := yy 5
        dsimp [inC] at f0 f2 f3 f4 f5
        have ff := fun i => frozen_of_row _ p i _ _ z5
        have ff2 := ff 2; have ff3 := ff 3; have ff4 := ff 4; have ff5 := ff 5
        have Z5 := Lib.hid z5
        clear z1 z2 z5 yy y3 ff o5 g5 p5 d0 d2 d3 d4 d5 e3 HF K1 K0
        have C1 := Lib.hid (HB.out.setC 4 (.int .i64 ((ct : Int) + 1)) ⟨M, wait, pas, pb ++ [b], ct + 1, 5⟩ (fun _ => rfl) rfl)
        have C2 := Lib.hid (C1.out.1.setC 5 (.int .i64 (6)) ⟨M, wait, pas, pb ++ [b], ct + 1, 6⟩ (fun _ => rfl) rfl)
        have zC := blk_set (blk_set (blk_set Z5.out 3 (.slice ad5 (n + 1) c5)) 4 (.int .i64 ((ct : Int) + 1))) 5 (.int .i64 6)
        obtain ⟨bv2, kv2, y1, y2, _⟩ := C2.out.1.ex
        have y3 := cell_of_row _ _ 3 _ _ _ y1
        rw [cell_of_row _ _ 3 _ _ _ zC] at y3
        obtain rfl : bv2 = .slice ad5 (n + 1) c5 := by simpa [inC] using y3.symm
        dsimp only at y2
        obtain ⟨g, c6, e6, hle6, hcv6⟩ := conv_ownU y2 hne
        obtain ⟨rfl, -, rfl⟩ := Value.slice.inj e6
        rw [hpl] at hle6
        have hkl : (min d M).toNat ≤ (pb ++ [b]).length := by omega
        have hcv7 := hcv6 (min d M).toNat hkl
        have hkc : (min d M).toNat ≤ c5 := by omega
        have hki : min d M ≤ (c5 : Int) := by omega
        have TL6 := Lib.hid (fun w h => TL.out ⟨M, wait, pas, pb ++ [b], ct + 1, 6⟩ w (15, 0, mkL ((pb ++ [b]).take (min d M).toNat), decide (min d M < d)) h)
        clear TL y1 y2 y3 zC hcv6 e6 hk1 Z5 hpl hkl hne ix
        go_wp2_with (go_at_call 37; refine (TL6.out _ C2.out.1).mono ?_; rintro e w7 ⟨rfl, h7, k7⟩; have H7 := Lib.hid h7; have K7 := Lib.hid k7; obtain ⟨_, _, _, _, _, _, _, _, gg⟩ := h7.cells; have g2 := gg 2; have g3 := gg 3; have g4 := gg 4; have g5 := gg 5; have X7 := Lib.hid (h7.setP false); clear h7 k7 gg)
        refine bodyPost_end (results_none rfl _ _ _) rfl ?_
        exact ⟨rfl, X7.out.1, (((KB.out.trans C1.out.2).trans C2.out.2).trans K7.out).trans X7.out.2⟩
    · have hxe : (x == y) = false := by simp [hxy]
      by_cases h27 : x = 27
      · have em : ipM mt b = 1 := by unfold ipM; rw [if_neg (fun h => hxy (hpeq.1 h)), if_pos (hb27.2 h27)]
        have e : ipR ⟨M, wait, pas, pb, ct, mt⟩ b = (⟨M, wait, pas, pb ++ [b], ct + 1, 1⟩, []) := by unfold ipR; dsimp only; rw [em, if_pos (by decide), eB]
        rw [e, List.append_nil]
        have h27' : (x == ((({ data := #[27, 91, 50, 48, 49, 126] } : ByteArray)[0]'(by decide)).toNat : Int)) = true := by rw [h27]; rfl
        clear h hct hK hpeq hb27 hlt hx hy e em eB TL h27 hxy
        go_enter Tryd.func38, Tryd.ntmps38
        go_upto_region 1 with fail
        have ws6 := WS6.out
        go_quiet (fail)
        clear ws6
        have B0 : Below w.heap.size w (w.drewN nq) := ⟨rfl, rfl, rfl, Nat.le_refl _, fun _ _ => rfl⟩
        obtain ⟨W, hW⟩ : ∃ W, w.drewN nq = W := ⟨_, rfl⟩
        rw [hW] at B0 ⊢
        have H0 := Lib.hid (H.out.below B0)
        have K0 := Lib.hid (KeptM.of (S := S) B0 H.out.lt)
        have d0 := (B0.cell (p := ⟨p, 0, none⟩) H.out.p_lt.1).trans c0
        have d2 := (B0.cell (p := ⟨p, 2, none⟩) H.out.p_lt.1).trans c2
        have d3 := (B0.cell (p := ⟨p, 3, none⟩) H.out.p_lt.1).trans c3
        have d4 := (B0.cell (p := ⟨p, 4, none⟩) H.out.p_lt.1).trans c4
        have d5 := (B0.cell (p := ⟨p, 5, none⟩) H.out.p_lt.1).trans c5
        have O0 := Lib.hid (hO.below B0)
        clear hW B0 c0 c2 c3 c4 c5 fz hO
        have B1 := below_alloc W (.cells #[.int .u8 x] 5)
        have H1 := Lib.hid (H0.out.below B1)
        have O1 := Lib.hid (O0.out.below B1)
        have K1 := Lib.hid (K0.out.trans (KeptM.of (S := S) B1 H0.out.lt))
        have e3 := Lib.hid ((B1.cell (p := ⟨p, 3, none⟩) H0.out.p_lt.1).trans d3)
        clear B1
        go_wp2_with (at_builtin; refine wpList_app_u8 rfl _ _ rfl _ n pb rfl HN.out O1.out ⟨W.heap.size, 0, none⟩ b rfl (hbx.out W) ?g4 ?_)
        case g4 => omega
        intro ad5 c5 w5 o5 g5 p5
        have HF := Lib.hid (InS.putB H1.out e3.out (L := pb ++ [b]) o5 g5 (fun k h => (p5 k h).imp id (fun h => by simpa using h)))
        have HB := Lib.hid HF.out.1
        have KB := Lib.hid (K1.out.trans HF.out.2)
        obtain ⟨bv', kv', z1, z2, _⟩ := H1.out.ex
        have y3 := cell_of_row _ _ 3 _ _ _ z1
        rw [e3.out] at y3
        obtain rfl : bv' = .slice pa n pc := by simpa [inC] using y3.symm
        have z5 := (g5.block p H1.out.p_lt.1 (fun e => own_ne_kind z2 z1 tIn_ne_u e.symm)).trans z1
        have yy := fun i => cell_of_row _ _ i _ _ _ z5
        have f0 := yy 0; have f2 := yy 2; have f3 := yy 3; have f4 := yy 4; have f5 := yy 5
        dsimp [inC] at f0 f2 f3 f4 f5
        have ff := fun i => frozen_of_row _ p i _ _ z5
        have ff2 := ff 2; have ff3 := ff 3; have ff4 := ff 4; have ff5 := ff 5
        have Z5 := Lib.hid z5
        clear z1 z2 z5 yy y3 ff o5 g5 p5 d0 d2 d3 d4 d5 e3 HF K1 K0
        have C1 := Lib.hid (HB.out.setC 4 (.int .i64 ((ct : Int) + 1)) ⟨M, wait, pas, pb ++ [b], ct + 1, mt⟩ (fun _ => rfl) rfl)
        have C2 := Lib.hid (C1.out.1.setC 5 (.int .i64 (1)) ⟨M, wait, pas, pb ++ [b], ct + 1, 1⟩ (fun _ => rfl) rfl)
        go_wp2
        refine bodyPost_ret (results_none rfl _ _ _) rfl ?_
        exact ⟨rfl, C2.out.1, (KB.out.trans C1.out.2).trans C2.out.2⟩
      · have em : ipM mt b = 0 := by unfold ipM; rw [if_neg (fun h => hxy (hpeq.1 h)), if_neg (fun h => h27 (hb27.1 h))]
        have e : ipR ⟨M, wait, pas, pb, ct, mt⟩ b = (⟨M, wait, pas, pb ++ [b], ct + 1, 0⟩, []) := by unfold ipR; dsimp only; rw [em, if_pos (by decide), eB]
        rw [e, List.append_nil]
        have h27'' : (x == 27) = false := by simp [h27]
        have h27' : (x == ((({ data := #[27, 91, 50, 48, 49, 126] } : ByteArray)[0]'(by decide)).toNat : Int)) = false := h27''
        clear h hct hK hpeq hb27 hlt hx hy e em eB TL h27 hxy
        go_enter Tryd.func38, Tryd.ntmps38
        go_upto_region 1 with fail
        have ws6 := WS6.out
        go_quiet (fail)
        clear ws6
        have B0 : Below w.heap.size w (w.drewN nq) := ⟨rfl, rfl, rfl, Nat.le_refl _, fun _ _ => rfl⟩
        obtain ⟨W, hW⟩ : ∃ W, w.drewN nq = W := ⟨_, rfl⟩
        rw [hW] at B0 ⊢
        have H0 := Lib.hid (H.out.below B0)
        have K0 := Lib.hid (KeptM.of (S := S) B0 H.out.lt)
        have d0 := (B0.cell (p := ⟨p, 0, none⟩) H.out.p_lt.1).trans c0
        have d2 := (B0.cell (p := ⟨p, 2, none⟩) H.out.p_lt.1).trans c2
        have d3 := (B0.cell (p := ⟨p, 3, none⟩) H.out.p_lt.1).trans c3
        have d4 := (B0.cell (p := ⟨p, 4, none⟩) H.out.p_lt.1).trans c4
        have d5 := (B0.cell (p := ⟨p, 5, none⟩) H.out.p_lt.1).trans c5
        have O0 := Lib.hid (hO.below B0)
        clear hW B0 c0 c2 c3 c4 c5 fz hO
        have B1 := below_alloc W (.cells #[.int .u8 x] 5)
        have H1 := Lib.hid (H0.out.below B1)
        have O1 := Lib.hid (O0.out.below B1)
        have K1 := Lib.hid (K0.out.trans (KeptM.of (S := S) B1 H0.out.lt))
        have e3 := Lib.hid ((B1.cell (p := ⟨p, 3, none⟩) H0.out.p_lt.1).trans d3)
        clear B1
        go_wp2_with (at_builtin; refine wpList_app_u8 rfl _ _ rfl _ n pb rfl HN.out O1.out ⟨W.heap.size, 0, none⟩ b rfl (hbx.out W) ?g4 ?_)
        case g4 => omega
        intro ad5 c5 w5 o5 g5 p5
        have HF := Lib.hid (InS.putB H1.out e3.out (L := pb ++ [b]) o5 g5 (fun k h => (p5 k h).imp id (fun h => by simpa using h)))
        have HB := Lib.hid HF.out.1
        have KB := Lib.hid (K1.out.trans HF.out.2)
        obtain ⟨bv', kv', z1, z2, _⟩ := H1.out.ex
        have y3 := cell_of_row _ _ 3 _ _ _ z1
        rw [e3.out] at y3
        obtain rfl : bv' = .slice pa n pc := by simpa [inC] using y3.symm
        have z5 := (g5.block p H1.out.p_lt.1 (fun e => own_ne_kind z2 z1 tIn_ne_u e.symm)).trans z1
        have yy := fun i => cell_of_row _ _ i _ _ _ z5
        have f0 := yy 0; have f2 := yy 2; have f3 := yy 3; have f4 := yy 4; have f5 := yy 5
        dsimp [inC] at f0 f2 f3 f4 f5
        have ff := fun i => frozen_of_row _ p i _ _ z5
        have ff2 := ff 2; have ff3 := ff 3; have ff4 := ff 4; have ff5 := ff 5
        have Z5 := Lib.hid z5
        clear z1 z2 z5 yy y3 ff o5 g5 p5 d0 d2 d3 d4 d5 e3 HF K1 K0
        have C1 := Lib.hid (HB.out.setC 4 (.int .i64 ((ct : Int) + 1)) ⟨M, wait, pas, pb ++ [b], ct + 1, mt⟩ (fun _ => rfl) rfl)
        have C2 := Lib.hid (C1.out.1.setC 5 (.int .i64 (0)) ⟨M, wait, pas, pb ++ [b], ct + 1, 0⟩ (fun _ => rfl) rfl)
        go_wp2
        refine bodyPost_ret (results_none rfl _ _ _) rfl ?_
        exact ⟨rfl, C2.out.1, (KB.out.trans C1.out.2).trans C2.out.2⟩
  · have eB : ipB ⟨M, wait, pas, pb, ct, mt⟩ b = pb := by unfold ipB; rw [if_neg (by dsimp only; rw [HN.out]; exact hA)]
    by_cases hxy : x = y
    · have em : ipM mt b = mt + 1 := by unfold ipM; rw [if_pos (hpeq.2 hxy)]
      subst hxy
      by_cases h6 : mt + 1 < 6
      · have e : ipR ⟨M, wait, pas, pb, ct, mt⟩ b = (⟨M, wait, pas, pb, ct + 1, mt + 1⟩, []) := by unfold ipR; dsimp only; rw [em, if_pos h6, eB]
        rw [e, List.append_nil]
        have h6i : (mt : Int) + 1 < 6 := by omega
        clear h hct hK hpeq hb27 hlt hx hy e em eB TL
        go_enter Tryd.func38, Tryd.ntmps38
        go_upto_region 1 with fail
        have ws6 := WS6.out
        go_quiet (fail)
        clear ws6
        have B0 : Below w.heap.size w (w.drewN nq) := ⟨rfl, rfl, rfl, Nat.le_refl _, fun _ _ => rfl⟩
        obtain ⟨W, hW⟩ : ∃ W, w.drewN nq = W := ⟨_, rfl⟩
        rw [hW] at B0 ⊢
        have H0 := Lib.hid (H.out.below B0)
        have K0 := Lib.hid (KeptM.of (S := S) B0 H.out.lt)
        have d0 := (B0.cell (p := ⟨p, 0, none⟩) H.out.p_lt.1).trans c0
        have d2 := (B0.cell (p := ⟨p, 2, none⟩) H.out.p_lt.1).trans c2
        have d3 := (B0.cell (p := ⟨p, 3, none⟩) H.out.p_lt.1).trans c3
        have d4 := (B0.cell (p := ⟨p, 4, none⟩) H.out.p_lt.1).trans c4
        have d5 := (B0.cell (p := ⟨p, 5, none⟩) H.out.p_lt.1).trans c5
        have O0 := Lib.hid (hO.below B0)
        clear hW B0 c0 c2 c3 c4 c5 fz hO
        have HB := H0
        have KB := K0
        obtain ⟨bv', kv', z1, z2, _⟩ := H0.out.ex
        have y3 := cell_of_row _ _ 3 _ _ _ z1
        rw [d3] at y3
        obtain rfl : bv' = .slice pa n pc := by simpa [inC] using y3.symm
        have Z5 := Lib.hid z1
        clear z1 z2 y3
        have ff := fun i => frozen_of_row _ p i _ _ Z5.out
        have ff2 := ff 2; have ff3 := ff 3; have ff4 := ff 4; have ff5 := ff 5
        clear ff
        have C1 := Lib.hid (HB.out.setC 4 (.int .i64 ((ct : Int) + 1)) ⟨M, wait, pas, pb, ct + 1, mt⟩ (fun _ => rfl) rfl)
        have C2 := Lib.hid (C1.out.1.setC 5 (.int .i64 ((mt : Int) + 1)) ⟨M, wait, pas, pb, ct + 1, mt + 1⟩ (fun _ => rfl) rfl)
        go_wp2
        refine bodyPost_ret (results_none rfl _ _ _) rfl ?_
        exact ⟨rfl, C2.out.1, (KB.out.trans C1.out.2).trans C2.out.2⟩
      · obtain rfl : mt = 5 := by omega
        obtain ⟨d, hd⟩ : ∃ d : Int, (ct : Int) + 1 - 6 = d := ⟨_, rfl⟩
        have hd0 : 0 ≤ d := by have := hct.1; omega
        have e : ipR ⟨M, wait, pas, pb, ct, 5⟩ b = (⟨M, wait, false, [], 0, 0⟩, [(15, 0, mkL ((pb).take (min d M).toNat), decide (min d M < d))]) := by unfold ipR; dsimp only; rw [em, if_neg h6, eB, hd]
        rw [e]
        have hne : pb ≠ [] := by
          intro e0
          have := congrArg List.length e0
          rw [HN.out] at this; simp at this; omega
        have hpl : (pb).length = n := by exact HN.out
        have hk1 : min d M ≤ (((pb).length : Nat) : Int) := by rw [hpl]; have := HPB.out; omega
        have hk0 : 0 ≤ min d M := by omega
        have ix5 : ∀ w, (Instr.index 9 (.string ⟨#[27, 91, 50, 48, 49, 126]⟩) (.int .i64 5)).run Tryd.prog w = .ok (.int .u8 x) w := ix
        clear h hct hK hpeq hb27 hlt hx hy e em eB h6
        go_enter Tryd.func38, Tryd.ntmps38
        go_upto_region 1 with fail
        have ws6 := WS6.out
        go_quiet (fail)
        clear ws6
        have B0 : Below w.heap.size w (w.drewN nq) := ⟨rfl, rfl, rfl, Nat.le_refl _, fun _ _ => rfl⟩
        obtain ⟨W, hW⟩ : ∃ W, w.drewN nq = W := ⟨_, rfl⟩
        rw [hW] at B0 ⊢
        have H0 := Lib.hid (H.out.below B0)
        have K0 := Lib.hid (KeptM.of (S := S) B0 H.out.lt)
        have d0 := (B0.cell (p := ⟨p, 0, none⟩) H.out.p_lt.1).trans c0
        have d2 := (B0.cell (p := ⟨p, 2, none⟩) H.out.p_lt.1).trans c2
        have d3 := (B0.cell (p := ⟨p, 3, none⟩) H.out.p_lt.1).trans c3
        have d4 := (B0.cell (p := ⟨p, 4, none⟩) H.out.p_lt.1).trans c4
        have d5 := (B0.cell (p := ⟨p, 5, none⟩) H.out.p_lt.1).trans c5
        have O0 := Lib.hid (hO.below B0)
        clear hW B0 c0 c2 c3 c4 c5 fz hO
        have HB := H0
        have KB := K0
        obtain ⟨bv', kv', z1, z2, _⟩ := H0.out.ex
        have y3 := cell_of_row _ _ 3 _ _ _ z1
        rw [d3] at y3
        obtain rfl : bv' = .slice pa n pc := by simpa [inC] using y3.symm
        have Z5 := Lib.hid z1
        clear z1 z2 y3
        have ff := fun i => frozen_of_row _ p i _ _ Z5.out
        have ff2 := ff 2; have ff3 := ff 3; have ff4 := ff 4; have ff5 := ff 5
        clear ff
        have C1 := Lib.hid (HB.out.setC 4 (.int .i64 ((ct : Int) + 1)) ⟨M, wait, pas, pb, ct + 1, 5⟩ (fun _ => rfl) rfl)
        have C2 := Lib.hid (C1.out.1.setC 5 (.int .i64 (6)) ⟨M, wait, pas, pb, ct + 1, 6⟩ (fun _ => rfl) rfl)
        have zC := blk_set (blk_set Z5.out 4 (.int .i64 ((ct : Int) + 1))) 5 (.int .i64 6)
        obtain ⟨bv2, kv2, y1, y2, _⟩ := C2.out.1.ex
        have y3 := cell_of_row _ _ 3 _ _ _ y1
        rw [cell_of_row _ _ 3 _ _ _ zC] at y3
        obtain rfl : bv2 = .slice pa n pc := by simpa [inC] using y3.symm
        dsimp only at y2
        obtain ⟨g, c6, e6, hle6, hcv6⟩ := conv_ownU y2 hne
        obtain ⟨rfl, -, rfl⟩ := Value.slice.inj e6
        rw [hpl] at hle6
        have hkl : (min d M).toNat ≤ (pb).length := by omega
        have hcv7 := hcv6 (min d M).toNat hkl
        have hkc : (min d M).toNat ≤ pc := by omega
        have hki : min d M ≤ (pc : Int) := by omega
        have TL6 := Lib.hid (fun w h => TL.out ⟨M, wait, pas, pb, ct + 1, 6⟩ w (15, 0, mkL ((pb).take (min d M).toNat), decide (min d M < d)) h)
        clear TL y1 y2 y3 zC hcv6 e6 hk1 Z5 hpl hkl hne ix
        go_wp2_with (go_at_call 37; refine (TL6.out _ C2.out.1).mono ?_; rintro e w7 ⟨rfl, h7, k7⟩; have H7 := Lib.hid h7; have K7 := Lib.hid k7; obtain ⟨_, _, _, _, _, _, _, _, gg⟩ := h7.cells; have g2 := gg 2; have g3 := gg 3; have g4 := gg 4; have g5 := gg 5; have X7 := Lib.hid (h7.setP false); clear h7 k7 gg)
        refine bodyPost_end (results_none rfl _ _ _) rfl ?_
        exact ⟨rfl, X7.out.1, (((KB.out.trans C1.out.2).trans C2.out.2).trans K7.out).trans X7.out.2⟩
    · have hxe : (x == y) = false := by simp [hxy]
      by_cases h27 : x = 27
      · have em : ipM mt b = 1 := by unfold ipM; rw [if_neg (fun h => hxy (hpeq.1 h)), if_pos (hb27.2 h27)]
        have e : ipR ⟨M, wait, pas, pb, ct, mt⟩ b = (⟨M, wait, pas, pb, ct + 1, 1⟩, []) := by unfold ipR; dsimp only; rw [em, if_pos (by decide), eB]
        rw [e, List.append_nil]
        have h27' : (x == ((({ data := #[27, 91, 50, 48, 49, 126] } : ByteArray)[0]'(by decide)).toNat : Int)) = true := by rw [h27]; rfl
        clear h hct hK hpeq hb27 hlt hx hy e em eB TL h27 hxy
        go_enter Tryd.func38, Tryd.ntmps38
        go_upto_region 1 with fail
        have ws6 := WS6.out
        go_quiet (fail)
        clear ws6
        have B0 : Below w.heap.size w (w.drewN nq) := ⟨rfl, rfl, rfl, Nat.le_refl _, fun _ _ => rfl⟩
        obtain ⟨W, hW⟩ : ∃ W, w.drewN nq = W := ⟨_, rfl⟩
        rw [hW] at B0 ⊢
        have H0 := Lib.hid (H.out.below B0)
        have K0 := Lib.hid (KeptM.of (S := S) B0 H.out.lt)
        have d0 := (B0.cell (p := ⟨p, 0, none⟩) H.out.p_lt.1).trans c0
        have d2 := (B0.cell (p := ⟨p, 2, none⟩) H.out.p_lt.1).trans c2
        have d3 := (B0.cell (p := ⟨p, 3, none⟩) H.out.p_lt.1).trans c3
        have d4 := (B0.cell (p := ⟨p, 4, none⟩) H.out.p_lt.1).trans c4
        have d5 := (B0.cell (p := ⟨p, 5, none⟩) H.out.p_lt.1).trans c5
        have O0 := Lib.hid (hO.below B0)
        clear hW B0 c0 c2 c3 c4 c5 fz hO
        have HB := H0
        have KB := K0
        obtain ⟨bv', kv', z1, z2, _⟩ := H0.out.ex
        have y3 := cell_of_row _ _ 3 _ _ _ z1
        rw [d3] at y3
        obtain rfl : bv' = .slice pa n pc := by simpa [inC] using y3.symm
        have Z5 := Lib.hid z1
        clear z1 z2 y3
        have ff := fun i => frozen_of_row _ p i _ _ Z5.out
        have ff2 := ff 2; have ff3 := ff 3; have ff4 := ff 4; have ff5 := ff 5
        clear ff
        have C1 := Lib.hid (HB.out.setC 4 (.int .i64 ((ct : Int) + 1)) ⟨M, wait, pas, pb, ct + 1, mt⟩ (fun _ => rfl) rfl)
        have C2 := Lib.hid (C1.out.1.setC 5 (.int .i64 (1)) ⟨M, wait, pas, pb, ct + 1, 1⟩ (fun _ => rfl) rfl)
        go_wp2
        refine bodyPost_ret (results_none rfl _ _ _) rfl ?_
        exact ⟨rfl, C2.out.1, (KB.out.trans C1.out.2).trans C2.out.2⟩
      · have em : ipM mt b = 0 := by unfold ipM; rw [if_neg (fun h => hxy (hpeq.1 h)), if_neg (fun h => h27 (hb27.1 h))]
        have e : ipR ⟨M, wait, pas, pb, ct, mt⟩ b = (⟨M, wait, pas, pb, ct + 1, 0⟩, []) := by unfold ipR; dsimp only; rw [em, if_pos (by decide), eB]
        rw [e, List.append_nil]
        have h27'' : (x == 27) = false := by simp [h27]
        have h27' : (x == ((({ data := #[27, 91, 50, 48, 49, 126] } : ByteArray)[0]'(by decide)).toNat : Int)) = false := h27''
        clear h hct hK hpeq hb27 hlt hx hy e em eB TL h27 hxy
        go_enter Tryd.func38, Tryd.ntmps38
        go_upto_region 1 with fail
        have ws6 := WS6.out
        go_quiet (fail)
        clear ws6
        have B0 : Below w.heap.size w (w.drewN nq) := ⟨rfl, rfl, rfl, Nat.le_refl _, fun _ _ => rfl⟩
        obtain ⟨W, hW⟩ : ∃ W, w.drewN nq = W := ⟨_, rfl⟩
        rw [hW] at B0 ⊢
        have H0 := Lib.hid (H.out.below B0)
        have K0 := Lib.hid (KeptM.of (S := S) B0 H.out.lt)
        have d0 := (B0.cell (p := ⟨p, 0, none⟩) H.out.p_lt.1).trans c0
        have d2 := (B0.cell (p := ⟨p, 2, none⟩) H.out.p_lt.1).trans c2
        have d3 := (B0.cell (p := ⟨p, 3, none⟩) H.out.p_lt.1).trans c3
        have d4 := (B0.cell (p := ⟨p, 4, none⟩) H.out.p_lt.1).trans c4
        have d5 := (B0.cell (p := ⟨p, 5, none⟩) H.out.p_lt.1).trans c5
        have O0 := Lib.hid (hO.below B0)
        clear hW B0 c0 c2 c3 c4 c5 fz hO
        have HB := H0
        have KB := K0
        obtain ⟨bv', kv', z1, z2, _⟩ := H0.out.ex
        have y3 := cell_of_row _ _ 3 _ _ _ z1
        rw [d3] at y3
        obtain rfl : bv' = .slice pa n pc := by simpa [inC] using y3.symm
        have Z5 := Lib.hid z1
        clear z1 z2 y3
        have ff := fun i => frozen_of_row _ p i _ _ Z5.out
        have ff2 := ff 2; have ff3 := ff 3; have ff4 := ff 4; have ff5 := ff 5
        clear ff
        have C1 := Lib.hid (HB.out.setC 4 (.int .i64 ((ct : Int) + 1)) ⟨M, wait, pas, pb, ct + 1, mt⟩ (fun _ => rfl) rfl)
        have C2 := Lib.hid (C1.out.1.setC 5 (.int .i64 (0)) ⟨M, wait, pas, pb, ct + 1, 0⟩ (fun _ => rfl) rfl)
        go_wp2
        refine bodyPost_ret (results_none rfl _ _ _) rfl ?_
        exact ⟨rfl, C2.out.1, (KB.out.trans C1.out.2).trans C2.out.2⟩
end
end Go.Proofs.YtdafcjjlkjngmaaDoor
set_option linter.unusedVariables false
set_option linter.unusedSimpArgs false
namespace Go.Proofs.YtdafcjjlkjngmaaDoor
open Go.RowKit
/-- An item: the object and the keys. -/
def itR (s : IS) (x : Bool × UInt8) : IS × List Ky :=
  if s.pas = true then (if x.1 = true then (s, []) else ipR s x.2) else if x.1 = true then ({ s with wait := [] }, stK s.wait) else tkR s x.2
/-- Items, one after another. -/
def doR (s : IS) : List (Bool × UInt8) → IS × List Ky
  | [] => (s, [])
  | x :: l => ((doR (itR s x).1 l).1, (itR s x).2 ++ (doR (itR s x).1 l).2)
theorem doR_snoc (s : IS) (l : List (Bool × UInt8)) (x : Bool × UInt8) : doR s (l ++ [x]) = ((itR (doR s l).1 x).1, (doR s l).2 ++ (itR (doR s l).1 x).2) := by
  induction l generalizing s with
  | nil => simp [doR]
  | cons y l ih => rw [List.cons_append, doR, ih, doR]; simp
/-- An object as it may be, N bytes of a paste behind. -/
structure GS (N : Nat) (s : IS) : Prop where
  m : 1 ≤ s.most ∧ s.most ≤ 65536
  w : s.wait = [] ∨ WOk s.wait
  p : s.pas = true → s.wait = [] ∧ s.mt < 6 ∧ s.mt ≤ s.ct ∧ s.ct ≤ N ∧ (s.pb.length : Int) = min (s.ct : Int) (s.most + 6)
theorem sizeB_four (n : Nat) : sizeB n ≤ 4 := by
  unfold sizeB
  repeat' split
  all_goals omega
theorem pB_len {l : List UInt8} (h : pB (mkL l) = true) : l.length ≤ 3 := by
  unfold pB at h
  rw [Bool.and_eq_true] at h
  have h2 := ((partB_iff _).1 h.2).2
  have h3 := sizeB_four ((mkL l).get! 0).toNat
  rw [mkL_size] at h2
  omega
theorem u8_eq {b : UInt8} {n : Nat} (h : b.toNat = n) (hn : n < 256) : b = UInt8.ofNat n := UInt8.toNat_inj.1 (by rw [h]; show n = n % 256; omega)
theorem fr_ok (b : UInt8) : frW b = [] ∨ WOk (frW b) := by
  unfold frW
  split
  · rename_i h
    refine Or.inr (Or.inr (Or.inr (Or.inr ⟨by simp, fun e => ?_, by simp⟩)))
    have e' : b = 27 := e
    rw [e'] at h
    exact absurd h.1 (by decide)
  · exact Or.inl rfl
theorem be_ok (b : UInt8) : (beS b).1 = [] ∨ WOk (beS b).1 := by
  unfold beS
  split
  · rename_i h
    rcases h with h | h
    · obtain rfl : b = 91 := u8_eq h (by decide)
      exact Or.inr (Or.inr (Or.inr (Or.inl ⟨[], rfl, by simp⟩)))
    · obtain rfl : b = 79 := u8_eq h (by decide)
      exact Or.inr (Or.inr (Or.inl rfl))
  · split <;> exact Or.inl rfl
theorem bc_ok (g : List UInt8) (b : UInt8) (hg : g.length ≤ 4) : bcW g b = [] ∨ WOk (bcW g b) := by
  unfold bcW
  split
  · split
    · exact Or.inr (Or.inr (Or.inr (Or.inl ⟨g ++ [b], rfl, by rw [List.length_append, List.length_singleton]; omega⟩)))
    · exact Or.inr (Or.inr (Or.inr (Or.inl ⟨g, rfl, hg⟩)))
  · exact Or.inl rfl
theorem bu_ok (l : List UInt8) (b : UInt8) (h0 : l ≠ []) (h1 : l.getD 0 0 ≠ 27) : buW l b = [] ∨ WOk (buW l b) := by
  unfold buW
  split
  · rename_i h
    refine Or.inr (Or.inr (Or.inr (Or.inr ⟨by simp, ?_, pB_len h⟩)))
    cases l with
    | nil => exact absurd rfl h0
    | cons c l => exact h1
  · exact Or.inl rfl
theorem gs_wait {N : Nat} {s : IS} (h : GS N s) (hp : s.pas = false) {l : List UInt8} (hl : l = [] ∨ WOk l) : GS N { s with wait := l } :=
  ⟨h.m, hl, fun e => absurd e (by show ¬ s.pas = true; rw [hp]; decide)⟩
theorem gs_dn {N : Nat} {s : IS} (h : GS N s) (hp : s.pas = false) (g : List UInt8) (b : UInt8) (hw : s.wait = []) : GS N (dnS s g b) := by
  unfold dnS
  split
  · have hm := h.m
    exact ⟨h.m, h.w, fun _ => ⟨hw, by show (0 : Nat) < 6; decide, Nat.le_refl _, Nat.zero_le _, by show ((0 : Nat) : Int) = min ((0 : Nat) : Int) (s.most + 6); omega⟩⟩
  · exact h
theorem gs_bh {N : Nat} {s : IS} (h : GS N s) (hp : s.pas = false) (hW : WOk s.wait) (b : UInt8) : GS N (bhR s b).1 := by
  unfold bhR
  split
  · exact gs_wait h hp (be_ok b)
  split
  · exact gs_wait h hp (Or.inl rfl)
  split
  · rename_i n1 n2 h27
    have hg : (s.wait.drop 2).length ≤ 4 := by
      rcases hW with e | e | ⟨g, e, hg⟩ | ⟨_, e, _⟩
      · exact absurd e n1
      · exact absurd e n2
      · rw [e]; exact hg
      · exact absurd h27 e
    dsimp only
    unfold bcS
    split
    · exact gs_dn (gs_wait h hp (Or.inl rfl)) hp _ _ rfl
    · exact gs_wait h hp (bc_ok _ b hg)
  · rename_i n1 n2 n27
    have h0 : s.wait ≠ [] := by
      rcases hW with e | e | ⟨g, e, hg⟩ | ⟨e, _, _⟩
      · rw [e]; simp
      · rw [e]; simp
      · rw [e]; simp
      · exact e
    exact gs_wait h hp (bu_ok _ b h0 n27)
theorem gs_tk {N : Nat} {s : IS} (h : GS N s) (hp : s.pas = false) (b : UInt8) : GS N (tkR s b).1 := by
  unfold tkR
  split
  · exact gs_wait h hp (Or.inl rfl)
  split
  · exact gs_wait h hp (Or.inr (Or.inl rfl))
  split
  · exact gs_wait h hp (fr_ok b)
  rename_i hne
  split
  · exact gs_wait h hp (fr_ok b)
  · rcases h.w with e | e
    · exact absurd e hne
    · exact gs_bh h hp e b
theorem ipM_le {m : Nat} (h : m < 6) (b : UInt8) : ipM m b ≤ m + 1 := by
  unfold ipM
  split
  · exact Nat.le_refl _
  split <;> omega
theorem gs_ip {N : Nat} {s : IS} (h : GS N s) (hp : s.pas = true) (b : UInt8) : GS (N + 1) (ipR s b).1 := by
  obtain ⟨h1, h2, h3, h4, h5⟩ := h.p hp
  have hm := h.m
  unfold ipR
  split
  · rename_i h6
    have := ipM_le h2 b
    refine ⟨h.m, Or.inl h1, fun _ => ⟨h1, h6, by show ipM s.mt b ≤ s.ct + 1; omega, by show s.ct + 1 ≤ N + 1; omega, ?_⟩⟩
    show ((ipB s b).length : Int) = min ((s.ct + 1 : Nat) : Int) (s.most + 6)
    unfold ipB
    split
    · rw [List.length_append, List.length_singleton]; omega
    · omega
  · exact ⟨h.m, Or.inl h1, fun e => by cases e⟩
theorem GS.mono {N M : Nat} {s : IS} (h : GS N s) (hN : N ≤ M) : GS M s := ⟨h.m, h.w, fun e => by
  obtain ⟨h1, h2, h3, h4, h5⟩ := h.p e
  exact ⟨h1, h2, h3, by omega, h5⟩⟩
theorem gs_it {N : Nat} {s : IS} (h : GS N s) (x : Bool × UInt8) : GS (N + 1) (itR s x).1 := by
  unfold itR
  split
  · rename_i hp
    split
    · exact h.mono (by omega)
    · exact gs_ip h hp _
  · rename_i hp
    have hp' : s.pas = false := by simpa using hp
    split
    · exact (gs_wait h hp' (Or.inl rfl)).mono (by omega)
    · exact (gs_tk h hp' _).mono (by omega)
theorem gs_do {N : Nat} {s : IS} (h : GS N s) (l : List (Bool × UInt8)) : GS (N + l.length) (doR s l).1 := by
  induction l generalizing N s with
  | nil => exact h
  | cons x l ih =>
    have := ih (gs_it h x)
    exact this.mono (by rw [List.length_cons]; omega)
end Go.Proofs.YtdafcjjlkjngmaaDoor
set_option linter.unusedVariables false
set_option linter.unusedSimpArgs false
namespace Go.Proofs.YtdafcjjlkjngmaaDoor
open Go.RowKit
/-- An input lies at p; the blocks S are none of its own. -/
structure InO (S : Nat → Prop) (p : Nat) (s : IS) (w : World) : Prop where
  ex : ∃ bv, w.heap[p]? = some (.cells (inC s bv) 73 (0, 0)) ∧ OwU w bv s.pb ∧ ∀ k, S k → k < w.heap.size ∧ k ≠ p ∧ bv.ownBlock ≠ some k
/-- Items lie in memory, in blocks of S. -/
def ItemsIn (S : Nat → Prop) (w : World) (a : Option Addr) (l : List (Bool × UInt8)) : Prop :=
  ∀ i, i < l.length → ∃ b off, a = some ⟨b, off, none⟩ ∧ S b ∧ w.cell? ⟨b, off + i * 2, none⟩ = some (.bool (l.getD i (false, 0)).1) ∧ w.cell? ⟨b, off + i * 2 + 1, none⟩ = some (.int .u8 ((l.getD i (false, 0)).2.toNat : Int))
theorem cellb_in {w w' : World} {b : Nat} (h : w'.heap[b]? = w.heap[b]?) (i : Nat) : w'.cell? ⟨b, i, none⟩ = w.cell? ⟨b, i, none⟩ := by unfold World.cell?; rw [h]
theorem ItemsIn.kept {S : Nat → Prop} {w w' : World} {a : Option Addr} {l : List (Bool × UInt8)} (h : ItemsIn S w a l) (k : KeptM S w w') : ItemsIn S w' a l := fun i hi => by
  obtain ⟨b, off, e, hS, h1, h2⟩ := h i hi
  exact ⟨b, off, e, hS, (cellb_in (k.block b hS) _).trans h1, (cellb_in (k.block b hS) _).trans h2⟩
section
variable {S : Nat → Prop} {p : Nat} {s : IS} {w w' : World}
theorem InO.enter (h : InO S p s w) : InS S p w.heap.size w.heap.size s [] (w.alloc (.cells #[.slice none 0 0] 30)) := by
  obtain ⟨bv, h1, h2, h3⟩ := h.ex
  have hb := below_alloc w (.cells #[.slice none 0 0] 30)
  refine ⟨⟨bv, .slice none 0 0, blk_below h1 hb, h2.below hb, heap_alloc_new _ _, owk_nil _ _, fun k hk => ?_⟩, hb.size⟩
  obtain ⟨k1, k2, k3⟩ := h3 k hk
  exact ⟨Nat.lt_of_lt_of_le k1 hb.size, k2, Nat.ne_of_lt k1, k3, by simp [Value.ownBlock]⟩
theorem InS.leave {q B : Nat} {K : List Ky} (h : InS S p q B s K w) : ∃ v, w.cell? ⟨q, 0, none⟩ = some v ∧ OwK w B v K ∧ InO (fun k => S k ∨ v.ownBlock = some k) p s w := by
  obtain ⟨bv, kv, h1, h2, h3, h4, h5⟩ := h.ex
  refine ⟨kv, by rw [cell_of_row _ _ _ _ _ _ h3]; rfl, h4, ⟨bv, h1, h2, fun k hk => ?_⟩⟩
  rcases hk with hk | hk
  · have := h5 k hk; exact ⟨this.1, this.2.1, this.2.2.2.1⟩
  · refine ⟨(h4.lt k hk).2, fun e => own_ne_kind h4 h1 tIn_ne_k (by rw [hk, e]), fun e => ?_⟩
    rcases own_ne_own h2 h4 tu_ne_k with e2 | e2
    · rw [e2] at e; cases e
    · exact e2 (by rw [e, hk])
theorem ipK_len (s : IS) (b : UInt8) : (ipR s b).2.length ≤ 10 := by
  unfold ipR; split <;> simp
theorem frK_len (b : UInt8) : (frK b).length ≤ 1 := by
  unfold frK; repeat' split
  all_goals simp
theorem tkK_len (s : IS) (b : UInt8) (h : s.wait.length ≤ 9) : (tkR s b).2.length ≤ 10 := by
  have h1 := stK_len h; have h2 := bhK_len s b h; have h3 := frK_len b
  unfold tkR
  repeat' split
  all_goals (dsimp only; try rw [List.length_append])
  all_goals (try simp only [List.length_singleton])
  all_goals omega
theorem GS.w9 {N : Nat} (h : GS N s) : s.wait.length ≤ 9 := by
  rcases h.w with h | h | h | ⟨g, h, hg⟩ | ⟨_, _, h⟩
  · rw [h]; simp
  · rw [h]; simp
  · rw [h]; simp
  · rw [h]; simp; omega
  · omega
theorem itK_len {N : Nat} (h : GS N s) (x : Bool × UInt8) : (itR s x).2.length ≤ 10 := by
  have h1 := stK_len h.w9
  unfold itR
  split
  · split
    · simp
    · exact ipK_len _ _
  · split
    · dsimp only; omega
    · exact tkK_len _ _ h.w9
theorem doK_len {N : Nat} (h : GS N s) (l : List (Bool × UInt8)) : (doR s l).2.length ≤ 10 * l.length := by
  induction l generalizing N s with
  | nil => simp [doR]
  | cons x l ih =>
    have h1 := ih (gs_it h x)
    have h2 := itK_len h x
    unfold doR
    rw [List.length_append, List.length_cons]; omega
set_option maxHeartbeats 8000000 in
theorem do_any {N : Nat} (l : List (Bool × UInt8)) (a : Option Addr) (n c : Nat) (h : InO S p s w) (hU : US S w) (hI : ItemsIn S w a l) (hn : l.length = n) (hl : n ≤ 9800) (hG : GS N s) (hN : N + n ≤ 100000) :
    Calls Tryd.prog 14 #[.pointer (some ⟨p, 0, none⟩), .slice a n c] w fun e w' => ∃ v, e = .returned v ∧ OwK w' w.heap.size v (doR s l).2 ∧ InO (fun k => S k ∨ v.ownBlock = some k) p (doR s l).1 w' ∧ KeptM S w w' := by
  have hmf : ∀ (fn : Fn) (first cap : Array Value) (w : World), (Instr.makeFunc fn first cap).run Tryd.prog w = .ok (.func fn first cap) w := fun _ _ _ _ => rfl
  have H1 := Lib.hid h.enter
  have hSl : ∀ k, S k → k < w.heap.size := fun k hk => by obtain ⟨_, _, _, h3⟩ := h.ex; exact (h3 k hk).1
  have K1 := Lib.hid (KeptM.of (S := S) (below_alloc w (.cells #[.slice none 0 0] 30)) hSl)
  have HI := Lib.hid hI
  have HU := Lib.hid hU
  have HN := Lib.hid hn
  have HG := Lib.hid hG
  obtain ⟨q, hq⟩ : ∃ q, w.heap.size = q := ⟨_, rfl⟩
  obtain ⟨W, hW⟩ : ∃ W, w.alloc (.cells #[.slice none 0 0] 30) = W := ⟨_, rfl⟩
  rw [hW, hq] at H1
  rw [hW] at K1
  rw [hq]
  clear h hU hI hn hG hSl
  go_enter Tryd.func14, Tryd.ntmps14
  go_upto_region 6 with fail
  clear hW hq hmf
  go_loopw [14] (fun iv wr => ∃ (k : Nat), k ≤ n ∧ iv = .int .i64 (k : Int) ∧ Hid (InS S p q q (doR s (l.take k)).1 (doR s (l.take k)).2 wr) ∧ Hid (KeptM S w wr)) (fun iv _ => n - (intOf iv).toNat)
  case atStart => exact ⟨0, Nat.zero_le _, rfl, H1, K1⟩
  case round =>
    clear H1 K1
    obtain ⟨k, hk, rfl, HS, HR⟩ := hrel
    by_cases hlt : k < n
    · have hkl : k < l.length := by rw [HN.out]; exact hlt
      obtain ⟨b, off, rfl, hSb, i0, i1⟩ := (HI.out.kept HR.out) k hkl
      have hblt : b < wr.heap.size := HS.out.lt b hSb
      have hk1 : (k : Int) < n := by omega
      have hk0 : (0 : Int) ≤ k := by omega
      have hsn := doR_snoc s (l.take k) (l.getD k (false, 0))
      have htk : l.take k ++ [l.getD k (false, 0)] = l.take (k + 1) := by
        rw [List.take_succ_eq_append_getElem hkl, List.getD, List.getElem?_eq_getElem hkl]; rfl
      rw [htk] at hsn
      have hg1 := (gs_do HG.out (l.take k)).mono (M := 100000) (by rw [List.length_take]; omega)
      have hlen := doK_len HG.out (l.take k)
      have hlen8 : (doR s (l.take k)).2.length ≤ 98800 := by rw [List.length_take] at hlen; omega
      have HU2 := Lib.hid (HU.out.kept HR.out)
      have HSN := Lib.hid hsn
      clear hsn htk hlen hkl
      generalize l.getD k (false, 0) = x at *
      generalize doR s (l.take k) = r at *
      obtain ⟨t, u⟩ := x
      obtain ⟨s1, ks⟩ := r
      dsimp only at i0 i1 hg1 hlen8 HS HSN
      have hu : u.toNat < 256 := u.toNat_lt
      obtain ⟨_, _, _, _, p2, _, _, _, _⟩ := HS.out.cells
      have HG1 := Lib.hid hg1
      have B2 := below_alloc wr (.cells #[.bool t, .int .u8 (u.toNat : Int)] 35)
      have H2 := Lib.hid (HS.out.below B2)
      have K2 := Lib.hid (HR.out.trans (KeptM.of B2 HS.out.lt))
      have z2 := (B2.cell (p := ⟨p, 2, none⟩) HS.out.p_lt.1).trans p2
      have U2 := Lib.hid (HU.out.kept K2.out)
      clear p2 B2 HU2
      cases hp : s1.pas
      · rw [hp] at z2
        cases t
        · have e : itR s1 (false, u) = tkR s1 u := by unfold itR; rw [if_neg (by rw [hp]; decide)]; rfl
          rw [e] at HSN
          have CL := Lib.hid (take_any u H2.out U2.out hg1.w hlen8)
          clear e hg1 hp
          generalize u.toNat = y at *
          go_wp2_with (go_at_call 40; refine CL.out.mono ?_; rintro e w3 ⟨rfl, h3, k3⟩; have H3 := Lib.hid h3; have K3 := Lib.hid (K2.out.trans k3); clear h3 k3)
          go_roundw
          case rel => exact ⟨k + 1, by omega, by go_num, Lib.hid (by rw [HSN.out]; exact H3.out), K3⟩
          case measure => (simp [intOf]; try omega)
        · have e : itR s1 (true, u) = ({ s1 with wait := [] }, stK s1.wait) := by unfold itR; rw [if_neg (by rw [hp]; decide)]; rfl
          rw [e] at HSN
          have CL := Lib.hid (settle_any H2.out U2.out hg1.w9 (by omega))
          clear e hg1 hp
          generalize u.toNat = y at *
          go_wp2_with (go_at_call 39; refine CL.out.mono ?_; rintro e w3 ⟨rfl, h3, k3⟩; have H3 := Lib.hid h3; have K3 := Lib.hid (K2.out.trans k3); clear h3 k3)
          go_roundw
          case rel => exact ⟨k + 1, by omega, by go_num, Lib.hid (by rw [HSN.out]; exact H3.out), K3⟩
          case measure => (simp [intOf]; try omega)
      · rw [hp] at z2
        cases t
        · have e : itR s1 (false, u) = ipR s1 u := by unfold itR; rw [if_pos hp]; rfl
          rw [e] at HSN
          obtain ⟨g1, g2, g3, g4, g5⟩ := hg1.p hp
          have CL := Lib.hid (inpaste_any u H2.out hg1.m g2 ⟨g3, g4⟩ g5 (by omega))
          clear e hg1 hp g1 g2 g3 g4 g5
          generalize u.toNat = y at *
          go_wp2_with (go_at_call 38; refine CL.out.mono ?_; rintro e w3 ⟨rfl, h3, k3⟩; have H3 := Lib.hid h3; have K3 := Lib.hid (K2.out.trans k3); clear h3 k3)
          go_roundw
          case rel => exact ⟨k + 1, by omega, by go_num, Lib.hid (by rw [HSN.out]; exact H3.out), K3⟩
          case measure => (simp [intOf]; try omega)
        · have e : itR s1 (true, u) = (s1, []) := by unfold itR; rw [if_pos hp]; rfl
          rw [e, List.append_nil] at HSN
          clear e hg1 hp
          generalize u.toNat = y at *
          go_wp2
          go_roundw
          case rel => exact ⟨k + 1, by omega, by go_num, Lib.hid (by rw [HSN.out]; exact H2.out), K2⟩
          case measure => (simp [intOf]; try omega)
    · obtain rfl : k = n := by omega
      have hkl : ¬ (k : Int) < (k : Int) := by omega
      obtain ⟨v, hv, ho, hO⟩ := HS.out.leave
      rw [← HN.out, List.take_length] at ho hO
      have HO := Lib.hid (And.intro ho hO)
      clear ho hO
      go_wp2
      go_ret
      exact ⟨v, rfl, HO.out.1, HO.out.2, HR.out⟩
end
end Go.Proofs.YtdafcjjlkjngmaaDoor
set_option linter.unusedVariables false
set_option linter.unusedSimpArgs false
namespace Go.Proofs.YtdafcjjlkjngmaaDoor
open Go.RowKit
/-- A new input. -/
def in0 (m : Int) : IS := ⟨m, [], false, [], 0, 0⟩
theorem gs_in0 {m : Int} (h : 1 ≤ m ∧ m ≤ 65536) : GS 0 (in0 m) := ⟨h, Or.inl rfl, fun e => by cases e⟩
section
variable {S : Nat → Prop} {p : Nat} {s : IS} {w w' : World}
theorem InO.kept (h : InO S p s w) (hb : Below w.heap.size w w') {T : Nat → Prop} (hT : ∀ k, T k → S k ∨ (w.heap.size ≤ k ∧ k < w'.heap.size)) : InO T p s w' := by
  obtain ⟨bv, h1, h2, h3⟩ := h.ex
  refine ⟨bv, blk_below h1 hb, h2.below hb, fun k hk => ?_⟩
  rcases hT k hk with hk | ⟨hk1, hk2⟩
  · have := h3 k hk
    exact ⟨Nat.lt_of_lt_of_le this.1 hb.size, this.2⟩
  · refine ⟨hk2, fun e => ?_, fun e => ?_⟩
    · have := blk_lt h1; omega
    · have := (h2.lt k e).2; omega
theorem InO.cells (h : InO S p s w) : w.cell? ⟨p, 0, none⟩ = some (.int .i64 s.most) ∧ w.cell? ⟨p, 1, none⟩ = some (.string (mkL s.wait)) ∧ w.cell? ⟨p, 2, none⟩ = some (.bool s.pas) := by
  obtain ⟨bv, h1, _⟩ := h.ex
  have y := fun i => cell_of_row _ _ i _ _ _ h1
  exact ⟨by rw [y 0]; rfl, by rw [y 1]; rfl, by rw [y 2]; rfl⟩
theorem innew_any (m : Int) (w : World) (hm : 1 ≤ m ∧ m ≤ 65536) (hS : ∀ k, S k → k < w.heap.size) :
    Calls Tryd.prog 11 #[.int .i64 m] w fun e w' => e = .returned (.tuple #[.pointer (some ⟨w.heap.size, 0, none⟩), .int .i64 0]) ∧ InO S w.heap.size (in0 m) w' ∧ Below w.heap.size w w' := by
  have B1 := below_alloc w (.cells (inC (in0 m) (.slice none 0 0)) 73)
  have HO : Hid (InO S w.heap.size (in0 m) (w.alloc (.cells (inC (in0 m) (.slice none 0 0)) 73))) := Lib.hid ⟨.slice none 0 0, heap_alloc_new _ _, owu_nil _, fun k hk => ⟨Nat.lt_of_lt_of_le (hS k hk) B1.size, Nat.ne_of_lt (hS k hk), by simp [Value.ownBlock]⟩⟩
  have HB := Lib.hid B1
  obtain ⟨h1, h2⟩ := hm
  clear B1
  go_enter Tryd.func11, Tryd.ntmps11
  go_wp2
  go_ret2
  exact ⟨rfl, HO.out, HB.out⟩
theorem innew_no (m : Int) (w : World) (hm : ¬ (1 ≤ m ∧ m ≤ 65536)) :
    Calls Tryd.prog 11 #[.int .i64 m] w fun e w' => e = .returned (.tuple #[.pointer none, .int .i64 3]) ∧ w = w' := by
  by_cases h : m < 1
  · go_enter Tryd.func11, Tryd.ntmps11
    go_wp2
    go_ret2
    exact ⟨rfl, rfl⟩
  · have h2 : 65536 < m := by omega
    clear hm
    go_enter Tryd.func11, Tryd.ntmps11
    go_wp2
    go_ret2
    exact ⟨rfl, rfl⟩
theorem inpas_any (h : InO S p s w) : Calls Tryd.prog 15 #[.pointer (some ⟨p, 0, none⟩)] w fun e w' => e = .returned (.bool s.pas) ∧ w = w' := by
  obtain ⟨_, _, c2⟩ := h.cells
  clear h
  go_enter Tryd.func15, Tryd.ntmps15
  go_wp2
  go_ret
  exact ⟨rfl, rfl⟩
theorem inpas_nil (w : World) : Calls Tryd.prog 15 #[.pointer none] w fun e w' => e = .returned (.bool false) ∧ w = w' := by
  go_enter Tryd.func15, Tryd.ntmps15
  go_wp2
  go_ret
  exact ⟨rfl, rfl⟩
theorem inwaits_nil (w : World) : Calls Tryd.prog 16 #[.pointer none] w fun e w' => e = .returned (.bool false) ∧ w = w' := by
  go_enter Tryd.func16, Tryd.ntmps16
  go_wp2
  go_ret
  exact ⟨rfl, rfl⟩
theorem indo_nil (a : Option Addr) (n c : Nat) (w : World) : Calls Tryd.prog 14 #[.pointer none, .slice a n c] w fun e w' => e = .returned (.slice none 0 0) ∧ w = w' := by
  go_enter Tryd.func14, Tryd.ntmps14
  go_wp2
  go_ret
  exact ⟨rfl, rfl⟩
theorem inwaits_any (h : InO S p s w) : Calls Tryd.prog 16 #[.pointer (some ⟨p, 0, none⟩)] w fun e w' => e = .returned (.bool (decide (s.wait ≠ []) || s.pas)) ∧ w = w' := by
  obtain ⟨_, c1, c2⟩ := h.cells
  clear h
  by_cases hw : s.wait = []
  · rw [hw] at c1
    have c1' : w.cell? ⟨p, 1, none⟩ = some (.string ⟨#[]⟩) := c1
    rw [decide_eq_false (fun h => h hw), Bool.false_or]
    clear c1 hw
    go_enter Tryd.func16, Tryd.ntmps16
    go_wp2
    go_ret
    exact ⟨rfl, rfl⟩
  · have hne := bq_ne hw
    have hne2 : ((mkL s.wait).toList != []) = true := by unfold bne; rw [hne]; rfl
    rw [decide_eq_true hw, Bool.true_or]
    clear hw
    go_enter Tryd.func16, Tryd.ntmps16
    go_wp2
    go_ret
    exact ⟨rfl, rfl⟩
end
end Go.Proofs.YtdafcjjlkjngmaaDoor
set_option linter.unusedVariables false
set_option linter.unusedSimpArgs false
namespace Go.Proofs.YtdafcjjlkjngmaaDoor
open Go.RowKit
/-- The document's keys of what waits, settled. -/
def rsK (P : List UInt8) : List Ky := if P = [27] then [kv0 5 0] else if P.getD 0 0 = 27 then [] else P.map (fun b => kv0 1 (1114112 + (b.toNat : Int)))
theorem owk_one (w : World) (k : Ky) : OwK (w.alloc (.cells #[.int .i64 k.1, .int .i64 k.2.1, .string k.2.2.1, .bool k.2.2.2] 44)) w.heap.size (.slice (some ⟨w.heap.size, 0, none⟩) 1 1) [k] :=
  ⟨rfl, .inr ⟨w.heap.size, 1, #[.int .i64 k.1, .int .i64 k.2.1, .string k.2.2.1, .bool k.2.2.2], rfl, Nat.le_refl _, heap_alloc_new _ _, Nat.le_refl _, by decide, rfl, rfl⟩⟩
/-- The keys of a key: none, if it is none. -/
def keK (k : Ky) : List Ky := if k.1 = 0 then [] else [k]
theorem rkeys_ref (k : Ky) (w : World) : Calls Tryd.prog 115 #[.agg #[.int .i64 k.1, .int .i64 k.2.1, .string k.2.2.1, .bool k.2.2.2]] w fun e w' => ∃ v, e = .returned v ∧ OwK w' w.heap.size v (keK k) ∧ Below w.heap.size w w' := by
  have B1 := below_alloc w (.cells #[.int .i64 k.1, .int .i64 k.2.1, .string k.2.2.1, .bool k.2.2.2] 44)
  have q1 := heap_alloc_new w (.cells #[.int .i64 k.1, .int .i64 k.2.1, .string k.2.2.1, .bool k.2.2.2] 44)
  obtain ⟨W, hW⟩ : ∃ W, w.alloc (.cells #[.int .i64 k.1, .int .i64 k.2.1, .string k.2.2.1, .bool k.2.2.2] 44) = W := ⟨_, rfl⟩
  rw [hW] at B1 q1
  have yy := fun i => cell_of_row _ _ i _ _ _ q1
  have e0 := yy 0; have e1 := yy 1; have e2 := yy 2; have e3 := yy 3
  dsimp at e0 e1 e2 e3
  have hB := Lib.hid B1
  have hB2 := Lib.hid (seqB B1 (below_alloc W (.cells #[.int .i64 k.1, .int .i64 k.2.1, .string k.2.2.1, .bool k.2.2.2] 44)))
  have hO := Lib.hid ((owk_one W k).mono B1.size)
  unfold keK
  clear B1 q1 yy
  by_cases h0 : k.1 = 0
  · rw [if_pos h0]
    obtain ⟨k1, k2, k3, k4⟩ := k
    dsimp only at h0 e0 e1 e2 e3 ⊢
    subst h0
    clear hB2 hO
    go_enter Tryd.func115, Tryd.ntmps115
    go_wp2
    go_ret
    exact ⟨_, rfl, owk_nil _ _, hB.out⟩
  · rw [if_neg h0]
    have h0' : (k.1 == 0) = false := by simp [h0]
    go_enter Tryd.func115, Tryd.ntmps115
    go_wp2
    go_ret
    exact ⟨_, rfl, hO.out, hB2.out⟩
set_option maxHeartbeats 4000000 in
theorem rsettled_ref (P : List UInt8) (w : World) (hl : P.length ≤ 1000) :
    Calls Tryd.prog 35 #[.string (mkL P)] w fun e w' => ∃ v, e = .returned v ∧ OwK w' w.heap.size v (rsK P) ∧ Below w.heap.size w w' := by
  unfold rsK
  by_cases h27 : P = [27]
  · rw [if_pos h27]
    subst h27
    have hO := Lib.hid (owk_one w (kv0 5 0))
    have hB := Lib.hid (below_alloc w (.cells #[.int .i64 5, .int .i64 0, .string ⟨#[]⟩, .bool false] 44))
    rw [show mkL [27] = ⟨#[27]⟩ from rfl]
    go_enter Tryd.func35, Tryd.ntmps35
    go_wp2
    go_ret
    exact ⟨_, rfl, hO.out, hB.out⟩
  rw [if_neg h27]
  have hne := bq_ne h27
  obtain ⟨n, hn⟩ : ∃ n, P.length = n := ⟨_, rfl⟩
  have hz : (mkL P).size = n := by rw [mkL_size, hn]
  have HZ := Lib.hid hz
  have HN := Lib.hid hn
  have IX := Lib.hid (fun k (hk : k < n) wx => idx_run P k (by omega) wx)
  by_cases h0 : P.getD 0 0 = 27
  · rw [if_pos h0]
    have hpos : 0 < P.length := by
      rcases P with _ | ⟨c, l⟩
      · cases h0
      · simp
    have ix := fun w => idx_run P 0 hpos w
    rw [show ((0 : Nat) : Int) = 0 from rfl, h0, show (((27 : UInt8).toNat : Nat) : Int) = 27 from rfl] at ix
    have hp1 : (0 : Int) < (n : Int) := by omega
    clear hn IX h0 hl h27
    go_enter Tryd.func35, Tryd.ntmps35
    go_upto_region 5 with fail
    go_loopw [3, 4] (fun sv iv wr => sv = .slice none 0 0 ∧ iv = .int .i64 0 ∧ wr = w) (fun _ iv _ => 0)
    case atStart => exact ⟨rfl, rfl, rfl⟩
    case round =>
      obtain ⟨rfl, rfl, rfl⟩ := hrel
      go_wp2
      go_ret
      exact ⟨_, rfl, owk_nil _ _, Below.refl _ _⟩
  · have eP : P.map (fun b => kv0 1 (1114112 + (b.toNat : Int))) = (P.take n).map (fun b => kv0 1 (1114112 + (b.toNat : Int))) := by rw [← hn, List.take_length]
    rw [if_neg h0, eP]
    clear eP
    obtain ⟨y, hy⟩ : ∃ y : Int, ((P.getD 0 0).toNat : Int) = y := ⟨_, rfl⟩
    have hy27 : (y != 27) = true := by
      have : (P.getD 0 0).toNat ≠ 27 := fun e => h0 (UInt8.toNat_inj.1 e)
      simp; omega
    have hl' : Hid (n ≤ 1000) := Lib.hid (by omega)
    have HY := Lib.hid hy
    clear h0 h27 hl hy hn hz
    go_enter Tryd.func35, Tryd.ntmps35
    go_upto_region 5 with fail
    go_loopw [3, 4] (fun sv iv wr => ∃ (k : Nat), k ≤ n ∧ iv = .int .i64 (k : Int) ∧ Hid (OwK wr w.heap.size sv ((P.take k).map (fun b => kv0 1 (1114112 + (b.toNat : Int))))) ∧ Hid (Below w.heap.size w wr)) (fun _ iv _ => n - (intOf iv).toNat)
    case atStart => exact ⟨0, Nat.zero_le _, rfl, Lib.hid (owk_nil _ _), Lib.hid (Below.refl _ _)⟩
    case round =>
      obtain ⟨k, hk, rfl, HO, HB⟩ := hrel
      have hkl : ((P.take k).map (fun b => kv0 1 (1114112 + (b.toNat : Int)))).length = k := by rw [List.length_map, List.length_take, HN.out]; omega
      obtain ⟨ad, cp, rfl⟩ := HO.out.form hkl
      have HKL := Lib.hid hkl
      by_cases hlt : k < n
      · have hk1 : (k : Int) < ((mkL P).size : Int) := by rw [HZ.out]; omega
        have hix := IX.out k hlt
        have ix := IX.out 0 (by omega)
        rw [show ((0 : Nat) : Int) = 0 from rfl, HY.out] at ix
        have hpz : (0 : Int) < ((mkL P).size : Int) := by omega
        have hk9 : k < 1000 := by have := hl'.out; omega
        have hkl2 : k < P.length := by rw [HN.out]; exact hlt
        have htk : Hid ((P.take k).map (fun b => kv0 1 (1114112 + (b.toNat : Int))) ++ [kv0 1 (1114112 + ((P.getD k 0).toNat : Int))] = (P.take (k + 1)).map (fun b => kv0 1 (1114112 + (b.toNat : Int)))) := Lib.hid (by
          rw [List.take_succ_eq_append_getElem hkl2, List.map_append, List.getD, List.getElem?_eq_getElem hkl2]; rfl)
        have hbn : (P.getD k 0).toNat < 256 := (P.getD k 0).toNat_lt
        clear hkl hkl2
        generalize (P.getD k 0).toNat = x at *
        have B2 := below_alloc wr (.cells #[.int .i64 1, .int .i64 (1114112 + (x : Int)), .string ⟨#[]⟩, .bool false] 44)
        have O2 := Lib.hid (HO.out.below B2)
        have S2 := Lib.hid (key_new1 wr (kv0 1 (1114112 + (x : Int))))
        have N2 := Lib.hid (seqB HB.out B2)
        clear B2
        go_wp2_with (at_builtin; refine wpList_app_keys rfl _ _ rfl w.heap.size _ k _ rfl HKL.out O2.out (some ⟨wr.heap.size, 0, none⟩) 1 1 [kv0 1 (1114112 + (x : Int))] rfl rfl S2.out (fun e => (by cases e)) ?g3 ?g4 ?_)
        case g3 => omega
        case g4 => exact N2.out.size
        intro ad5 c5 w5 o5 g5 p5
        have N5 := Lib.hid (N2.out.grown g5 N2.out.size (fun k e => (O2.out.lt k e).1))
        rw [← List.map_take, htk.out] at o5
        have O5 := Lib.hid o5
        clear o5 g5 p5
        go_wp2
        go_roundw
        case rel => exact ⟨k + 1, by omega, by go_num, O5, N5⟩
        case measure => (simp [intOf]; try omega)
      · have hk1 : ¬ ((k : Int) < ((mkL P).size : Int)) := by rw [HZ.out]; omega
        obtain rfl : k = n := by omega
        go_wp2
        go_ret
        exact ⟨_, rfl, by rw [← List.map_take]; exact HO.out, HB.out⟩
end Go.Proofs.YtdafcjjlkjngmaaDoor
set_option linter.unusedVariables false
set_option linter.unusedSimpArgs false
namespace Go.Proofs.YtdafcjjlkjngmaaDoor
open Go.RowKit
def nmL : List (List UInt8) := [[65], [66], [67], [68], [72], [70], [49, 126], [55, 126], [52, 126], [56, 126], [51, 126], [53, 126], [54, 126]]
def kdL : List Int := [7, 8, 9, 10, 11, 12, 11, 11, 12, 12, 13, 14, 14]
/-- The key of what stands behind a bracket, from a place of the names on. -/
def knF (g : List UInt8) : Nat → Ky
  | 0 => kv0 0 0
  | n + 1 => if nmL.getD (13 - (n + 1)) [] = g then kv0 (kdL.getD (13 - (n + 1)) 0) (if g = [54, 126] then 1 else 0) else knF g n
def knK (g : List UInt8) : Ky := knF g 13
/-- A name that is behind all others stays so. -/
theorem knF_no (g : List UInt8) (k : Nat) (hk : k < 13) (h : nmL.getD k [] ≠ g) : knF g (13 - k) = knF g (13 - (k + 1)) := by
  obtain ⟨m, hm⟩ : ∃ m, 13 - k = m + 1 := ⟨12 - k, by omega⟩
  rw [hm, show 13 - (k + 1) = m by omega]
  show (if nmL.getD (13 - (m + 1)) [] = g then _ else _) = _
  rw [show 13 - (m + 1) = k by omega, if_neg h]
theorem knF_yes (g : List UInt8) (k : Nat) (hk : k < 13) (h : nmL.getD k [] = g) : knF g (13 - k) = kv0 (kdL.getD k 0) (if g = [54, 126] then 1 else 0) := by
  obtain ⟨m, hm⟩ : ∃ m, 13 - k = m + 1 := ⟨12 - k, by omega⟩
  rw [hm]
  show (if nmL.getD (13 - (m + 1)) [] = g then _ else _) = _
  rw [show 13 - (m + 1) = k by omega, if_pos h]
end Go.Proofs.YtdafcjjlkjngmaaDoor
set_option linter.unusedVariables false
set_option linter.unusedSimpArgs false
namespace Go.Proofs.YtdafcjjlkjngmaaDoor
open Go.RowKit
abbrev It := Bool × UInt8
def itC (L : List It) : List Value := L.flatMap fun p => [Value.bool p.1, Value.int .u8 (p.2.toNat : Int)]
theorem itC_at (L : List It) : ∀ i, i < L.length → (itC L)[i * 2]? = some (.bool (L.getD i (false, 0)).1) ∧ (itC L)[i * 2 + 1]? = some (.int .u8 ((L.getD i (false, 0)).2.toNat : Int)) := by
  induction L with
  | nil => intro i hi; simp at hi
  | cons x L ih =>
    intro i hi
    cases i with
    | zero => exact ⟨rfl, rfl⟩
    | succ i =>
      have h := ih i (by simpa using hi)
      rw [show (i + 1) * 2 = i * 2 + 1 + 1 by omega]
      exact h
theorem itC_len (L : List It) : (itC L).length = L.length * 2 := by
  unfold itC
  induction L with
  | nil => rfl
  | cons x L ih => simp only [List.flatMap_cons, List.length_append, List.length_cons, List.length_nil, ih]; omega
theorem itC_app (a b : List It) : itC (a ++ b) = itC a ++ itC b := by simp [itC]
theorem itC_one (l : List It) : ∀ u ∈ itC l, u.oneCell' = true := by
  intro u hu
  unfold itC at hu
  rw [List.mem_flatMap] at hu
  obtain ⟨p, _, hp⟩ := hu
  simp at hp
  rcases hp with rfl | rfl <;> rfl
theorem itC_news {w : World} {ad : Addr} {l : List It} (h : ItsIn w (some ad) l) : ∀ j u, (itC l)[j]? = some u → w.cell? (ad.add j) = some u := by
  intro j u hj
  have hlen := itC_len l
  have hj2 : j < l.length * 2 := by
    rw [← hlen]
    exact (List.getElem?_eq_some_iff.1 hj).1
  obtain ⟨b, off, e, _, h1, h2⟩ := h (j / 2) (by omega)
  injection e with e
  subst e
  have hadd : (⟨b, off, none⟩ : Addr).add j = ⟨b, off + j, none⟩ := by unfold Addr.add; split <;> simp_all
  have hs := itC_at l (j / 2) (by omega)
  rw [hadd]
  have hm : j % 2 = 0 ∨ j % 2 = 1 := by omega
  rcases hm with hm | hm
  · have e : j / 2 * 2 = j := by omega
    rw [e] at hs h1
    rw [hs.1] at hj
    rw [h1]; exact hj
  · have e : j / 2 * 2 + 1 = j := by omega
    rw [e] at hs
    rw [show off + j / 2 * 2 + 1 = off + j by omega] at h2
    rw [hs.2] at hj
    rw [h2]; exact hj
/-- A row of items of the call's own. -/
def OwI (w : World) (B : Nat) (v : Value) (L : List It) : Prop := w.ownsRow B 35 2 v L.length (itC L)
theorem bytesItem : ∃ b, (Tryd.prog.info? 35).map (fun i => (i.zero, i.size, i.bytes)) = some (some (.agg #[.bool false, .int .u8 0]), 2, b) ∧ 1 ≤ b ∧ b ≤ 64 := ⟨2, by kernel_rfl, by decide, by decide⟩
theorem owi_nil (w : World) (B : Nat) : OwI w B (.slice none 0 0) [] := World.ownsRow_nil _ _ _ _
theorem OwI.at {w : World} {B : Nat} {v : Value} {L : List It} (h : OwI w B v L) : ∃ a c, v = .slice a L.length c ∧ (a = none → c = 0) ∧ ItsIn w a L ∧ ItemsIn (fun k => v.ownBlock = some k) w a L := by
  unfold OwI at h
  rcases h.2 with ⟨rfl, h0⟩ | ⟨g, cap, cur, rfl, hB, hg, hle, _⟩
  · exact ⟨none, 0, by rw [h0], fun _ => rfl, fun j hj => by omega, fun j hj => by omega⟩
  · have hc : ∀ j, j < L.length → w.cell? ⟨g, 0 + j * 2, none⟩ = some (.bool (L.getD j (false, 0)).1) ∧ w.cell? ⟨g, 0 + j * 2 + 1, none⟩ = some (.int .u8 ((L.getD j (false, 0)).2.toNat : Int)) := fun j hj => by
      have := itC_at L j hj
      refine ⟨?_, ?_⟩
      · rw [Nat.zero_add, h.cellAt (j * 2) (by omega)]; exact this.1
      · rw [Nat.zero_add, h.cellAt (j * 2 + 1) (by omega)]; exact this.2
    exact ⟨_, cap, rfl, fun e => (by cases e), fun j hj => ⟨g, 0, rfl, blk_lt hg, hc j hj⟩, fun j hj => ⟨g, 0, rfl, rfl, hc j hj⟩⟩
theorem OwI.form {w : World} {B : Nat} {v : Value} {L : List It} {n : Nat} (h : OwI w B v L) (hn : L.length = n) : ∃ a c, v = .slice a n c := by
  obtain ⟨a, c, e, _⟩ := h.at
  exact ⟨a, c, by rw [e, hn]⟩
theorem OwI.mono {w : World} {B B' : Nat} {v : Value} {L : List It} (h : OwI w B v L) (hB : B' ≤ B) : OwI w B' v L := World.ownsRow.mono h hB
theorem OwI.below {w w' : World} {B : Nat} {v : Value} {L : List It} (h : OwI w B v L) (hb : Below w.heap.size w w') : OwI w' B v L := by
  refine h.kept (row := none) ⟨hb.os, hb.tape, hb.output, hb.size, fun k hk _ => hb.block k hk⟩ ?_
  cases v.ownBlock <;> simp
theorem its_new1 (w : World) (t : Bool) (b : UInt8) : ItsIn (w.alloc (.cells #[.bool t, .int .u8 (b.toNat : Int)] 35)) (some ⟨w.heap.size, 0, none⟩) [(t, b)] := fun i hi => by
  have hi0 : i = 0 := by simpa using hi
  subst hi0
  have h := heap_alloc_new w (.cells #[.bool t, .int .u8 (b.toNat : Int)] 35)
  exact ⟨w.heap.size, 0, rfl, blk_lt h, by rw [cell_of_row _ _ _ _ _ _ h]; rfl, by rw [cell_of_row _ _ _ _ _ _ h]; rfl⟩
theorem its_newS (S : Nat → Prop) (w : World) (t : Bool) (b : UInt8) (hS : S w.heap.size) : ItemsIn S (w.alloc (.cells #[.bool t, .int .u8 (b.toNat : Int)] 35)) (some ⟨w.heap.size, 0, none⟩) [(t, b)] := fun i hi => by
  have hi0 : i = 0 := by simpa using hi
  subst hi0
  have h := heap_alloc_new w (.cells #[.bool t, .int .u8 (b.toNat : Int)] 35)
  exact ⟨w.heap.size, 0, rfl, hS, by rw [cell_of_row _ _ _ _ _ _ h]; rfl, by rw [cell_of_row _ _ _ _ _ _ h]; rfl⟩
theorem its_below {W w : World} {a : Option Addr} {l : List It} (h : ItsIn W a l) (hb : Below W.heap.size W w) : ItemsIn (fun k => k < W.heap.size) w a l := fun i hi => by
  obtain ⟨b, off, e, hlt, h1, h2⟩ := h i hi
  exact ⟨b, off, e, hlt, (hb.cell (p := ⟨b, off + i * 2, none⟩) hlt).trans h1, (hb.cell (p := ⟨b, off + i * 2 + 1, none⟩) hlt).trans h2⟩
/-- An append of items to a row of the call's own. -/
theorem step_app_items {w : World} {ops : Array Oper} {o : Oper} {a : Act} {K : Act → World → Prop} {Q : Exit → Act → World → Prop} {E : Prop} (hgd : Region.wanted o (yielded ops a.tmps) = true) (s x : Operand)
    (ho : o.op = .call { callee := .builtin .append, args := #[s, x], argTypes := #[22, 22] }) (base : Nat)
    (v : Value) (np : Nat) (p : List It) (hs : a.eval s = v) (hp : p.length = np) (hown : OwI w base v p) (ad : Addr) (n c : Nat) (l : List It) (hx : a.eval x = .slice (some ad) n c) (hl : l.length = n) (hsg : ItsIn w (some ad) l)
    (hlen : np + n ≤ 1000000) (hbase : base ≤ w.heap.size)
    (h : ∀ ad' c' w', OwI w' base (.slice ad' (np + n) c') (p ++ l) → w.grownBy w' v.ownBlock → (∀ k, (Value.slice ad' (np + n) c').ownBlock = some k → v.ownBlock = some k ∨ w.heap.size ≤ k) → K (a.put o.dst (.slice ad' (np + n) c')) w') :
    if Region.wanted o (yielded ops a.tmps) = true then Oper.wp Tryd.prog o a w K Q else E := by
  obtain ⟨bb, hbb, hb1, hb2⟩ := bytesItem
  obtain ⟨i0, hi, hz0, hz1, hz2⟩ := info_parts hbb
  subst hl; subst hp
  rw [if_pos hgd]
  have hfin : ∀ v' w', OwI w' base v' (p ++ l) → w.grownBy w' v.ownBlock → (∀ k, v'.ownBlock = some k → v.ownBlock = some k ∨ w.heap.size ≤ k) → K (a.put o.dst v') w' := by
    intro v' w' h1 h2 h3
    obtain ⟨ad', c', rfl⟩ := h1.form (n := p.length + l.length) (by rw [List.length_append])
    exact h ad' c' w' h1 h2 h3
  obtain ⟨v', w', hr, a1, a2, a3⟩ := run_append_place (P := Tryd.prog) w base 22 o.type 35 i0 _ 2 bb Tryd.underlying22 hi hz0 hz1 hz2 rfl (by decide) v p.length _ hown ad l.length c (itC l) (itC_len l) (itC_news hsg) (itC_one l) (by unfold maxLen; omega) (Nat.le_trans (Nat.mul_le_mul hlen hb2) (by decide)) hbase
  have h' := hfin v' w' (by unfold OwI; rw [List.length_append, itC_app]; exact a1) a2 a3
  unfold Oper.wp execOp
  simp only [ho, resolve, invoke, builtin, Sem.run_bind, Sem.run_pure, Result.andThen_ok, List.map_toArray, List.map_cons, List.map_nil, hs, hx, hr]
  exact h'
theorem wpList_app_items {w : World} {ops : Array Oper} {rest : List Oper} {o : Oper} {a : Act} {Q : Exit → Act → World → Prop} (hgd : Region.wanted o (yielded ops a.tmps) = true) (s x : Operand)
    (ho : o.op = .call { callee := .builtin .append, args := #[s, x], argTypes := #[22, 22] }) (base : Nat)
    (v : Value) (np : Nat) (p : List It) (hs : a.eval s = v) (hp : p.length = np) (hown : OwI w base v p) (ad : Addr) (n c : Nat) (l : List It) (hx : a.eval x = .slice (some ad) n c) (hl : l.length = n) (hsg : ItsIn w (some ad) l)
    (hlen : np + n ≤ 1000000) (hbase : base ≤ w.heap.size)
    (h : ∀ ad' c' w', OwI w' base (.slice ad' (np + n) c') (p ++ l) → w.grownBy w' v.ownBlock → (∀ k, (Value.slice ad' (np + n) c').ownBlock = some k → v.ownBlock = some k ∨ w.heap.size ≤ k) → wpList Tryd.prog ops Q rest (a.put o.dst (.slice ad' (np + n) c')) w') : wpList Tryd.prog ops Q (o :: rest) a w :=
  wpList_step fun K hK => step_app_items hgd s x ho base v np p hs hp hown ad n c l hx hl hsg hlen hbase (fun ad' c' w' h1 h2 h3 => hK _ _ (h ad' c' w' h1 h2 h3))
/-- The items of bytes. -/
def biL (l : List UInt8) : List It := l.map fun b => (false, b)
set_option maxHeartbeats 4000000 in
theorem rof_ref (P : List UInt8) (w : World) (hl : P.length ≤ 1000) :
    Calls Tryd.prog 34 #[.string (mkL P)] w fun e w' => ∃ v, e = .returned v ∧ OwI w' w.heap.size v (biL P) ∧ Below w.heap.size w w' := by
  obtain ⟨n, hn⟩ : ∃ n, P.length = n := ⟨_, rfl⟩
  have HZ : Hid ((mkL P).size = n) := Lib.hid (by rw [mkL_size, hn])
  have HN := Lib.hid hn
  have IX := Lib.hid (fun k (hk : k < n) wx => idx_run P k (by omega) wx)
  have hl' : Hid (n ≤ 1000) := Lib.hid (by omega)
  clear hn hl
  go_enter Tryd.func34, Tryd.ntmps34
  go_upto_region 3 with fail
  go_loopw [3, 4] (fun sv iv wr => ∃ (k : Nat), k ≤ n ∧ iv = .int .i64 (k : Int) ∧ Hid (OwI wr w.heap.size sv (biL (P.take k))) ∧ Hid (Below w.heap.size w wr)) (fun _ iv _ => n - (intOf iv).toNat)
  case atStart => exact ⟨0, Nat.zero_le _, rfl, Lib.hid (owi_nil _ _), Lib.hid (Below.refl _ _)⟩
  case round =>
    obtain ⟨k, hk, rfl, HO, HB⟩ := hrel
    have hkl : (biL (P.take k)).length = k := by unfold biL; rw [List.length_map, List.length_take, HN.out]; omega
    obtain ⟨ad, cp, rfl⟩ := HO.out.form hkl
    have HKL := Lib.hid hkl
    by_cases hlt : k < n
    · have hk1 : (k : Int) < ((mkL P).size : Int) := by rw [HZ.out]; omega
      have hix := IX.out k hlt
      have hk9 : k < 1000 := by have := hl'.out; omega
      have hkl2 : k < P.length := by rw [HN.out]; exact hlt
      have htk : Hid (biL (P.take k) ++ [(false, P.getD k 0)] = biL (P.take (k + 1))) := Lib.hid (by
        unfold biL
        rw [List.take_succ_eq_append_getElem hkl2, List.map_append, List.getD, List.getElem?_eq_getElem hkl2]; rfl)
      clear hkl hkl2
      generalize P.getD k 0 = b at *
      have B2 := below_alloc wr (.cells #[.bool false, .int .u8 (b.toNat : Int)] 35)
      have O2 := Lib.hid (HO.out.below B2)
      have S2 := Lib.hid (its_new1 wr false b)
      have N2 := Lib.hid (seqB HB.out B2)
      clear B2
      generalize b.toNat = x at *
      go_wp2_with (at_builtin; refine wpList_app_items rfl _ _ rfl w.heap.size _ k _ rfl HKL.out O2.out ⟨wr.heap.size, 0, none⟩ 1 1 [(false, b)] rfl rfl S2.out ?g3 ?g4 ?_)
      case g3 => omega
      case g4 => exact N2.out.size
      intro ad5 c5 w5 o5 g5 p5
      have N5 := Lib.hid (N2.out.grown g5 N2.out.size (fun k e => (O2.out.lt k e).1))
      rw [htk.out] at o5
      have O5 := Lib.hid o5
      clear o5 g5 p5
      go_wp2
      go_roundw
      case rel => exact ⟨k + 1, by omega, by go_num, O5, N5⟩
      case measure => (simp [intOf]; try omega)
    · have hk1 : ¬ ((k : Int) < ((mkL P).size : Int)) := by rw [HZ.out]; omega
      obtain rfl : k = n := by omega
      have HT : P.take k = P := by rw [← HN.out, List.take_length]
      rw [HT] at HO
      go_wp2
      go_ret
      exact ⟨_, rfl, HO.out, HB.out⟩
end Go.Proofs.YtdafcjjlkjngmaaDoor
set_option linter.unusedVariables false
set_option linter.unusedSimpArgs false
namespace Go.Proofs.YtdafcjjlkjngmaaDoor
open Go.RowKit
theorem nm_cell {W : World} {N : Nat} (h : W.heap[N]? = some (.cells #[.string ⟨#[65]⟩, .string ⟨#[66]⟩, .string ⟨#[67]⟩, .string ⟨#[68]⟩, .string ⟨#[72]⟩, .string ⟨#[70]⟩, .string ⟨#[49, 126]⟩, .string ⟨#[55, 126]⟩, .string ⟨#[52, 126]⟩, .string ⟨#[56, 126]⟩, .string ⟨#[51, 126]⟩, .string ⟨#[53, 126]⟩, .string ⟨#[54, 126]⟩] 9 (0, 0))) (k : Nat) (hk : k < 13) : W.cell? ⟨N, k, none⟩ = some (.string (mkL (nmL.getD k []))) := by
  rw [cell_of_row _ _ _ _ _ _ h]
  rcases (by omega : k = 0 ∨ k = 1 ∨ k = 2 ∨ k = 3 ∨ k = 4 ∨ k = 5 ∨ k = 6 ∨ k = 7 ∨ k = 8 ∨ k = 9 ∨ k = 10 ∨ k = 11 ∨ k = 12) with rfl | rfl | rfl | rfl | rfl | rfl | rfl | rfl | rfl | rfl | rfl | rfl | rfl <;> rfl
theorem kd_cell {W : World} {N : Nat} (h : W.heap[N]? = some (.cells #[.int .i64 7, .int .i64 8, .int .i64 9, .int .i64 10, .int .i64 11, .int .i64 12, .int .i64 11, .int .i64 11, .int .i64 12, .int .i64 12, .int .i64 13, .int .i64 14, .int .i64 14] 3 (0, 0))) (k : Nat) (hk : k < 13) : W.cell? ⟨N, k, none⟩ = some (.int .i64 (kdL.getD k 0)) := by
  rw [cell_of_row _ _ _ _ _ _ h]
  rcases (by omega : k = 0 ∨ k = 1 ∨ k = 2 ∨ k = 3 ∨ k = 4 ∨ k = 5 ∨ k = 6 ∨ k = 7 ∨ k = 8 ∨ k = 9 ∨ k = 10 ∨ k = 11 ∨ k = 12) with rfl | rfl | rfl | rfl | rfl | rfl | rfl | rfl | rfl | rfl | rfl | rfl | rfl <;> rfl
/-- The world in which the names lie. -/
structure NmW (w W : World) : Prop where
  a : W.heap[w.heap.size]? = some (.cells #[.int .i64 0, .int .i64 0, .string ⟨#[]⟩, .bool false] 44 (0, 0))
  n : ∀ k, k < 13 → W.cell? ⟨w.heap.size + 1, k, none⟩ = some (.string (mkL (nmL.getD k [])))
  d : ∀ k, k < 13 → W.cell? ⟨w.heap.size + 1 + 1, k, none⟩ = some (.int .i64 (kdL.getD k 0))
  b : Below w.heap.size w W
theorem nmw (w : World) : NmW w (((w.alloc (.cells #[.int .i64 0, .int .i64 0, .string ⟨#[]⟩, .bool false] 44)).alloc (.cells #[.string ⟨#[65]⟩, .string ⟨#[66]⟩, .string ⟨#[67]⟩, .string ⟨#[68]⟩, .string ⟨#[72]⟩, .string ⟨#[70]⟩, .string ⟨#[49, 126]⟩, .string ⟨#[55, 126]⟩, .string ⟨#[52, 126]⟩, .string ⟨#[56, 126]⟩, .string ⟨#[51, 126]⟩, .string ⟨#[53, 126]⟩, .string ⟨#[54, 126]⟩] 9)).alloc (.cells #[.int .i64 7, .int .i64 8, .int .i64 9, .int .i64 10, .int .i64 11, .int .i64 12, .int .i64 11, .int .i64 11, .int .i64 12, .int .i64 12, .int .i64 13, .int .i64 14, .int .i64 14] 3)) := by
  have h1 := heap_alloc_new w (.cells #[.int .i64 0, .int .i64 0, .string ⟨#[]⟩, .bool false] 44)
  have b1 := below_alloc w (.cells #[.int .i64 0, .int .i64 0, .string ⟨#[]⟩, .bool false] 44)
  have s1 : (w.alloc (.cells #[.int .i64 0, .int .i64 0, .string ⟨#[]⟩, .bool false] 44)).heap.size = w.heap.size + 1 := by simp
  generalize w.alloc (.cells #[.int .i64 0, .int .i64 0, .string ⟨#[]⟩, .bool false] 44) = w1 at *
  have h2 := heap_alloc_new w1 (.cells #[.string ⟨#[65]⟩, .string ⟨#[66]⟩, .string ⟨#[67]⟩, .string ⟨#[68]⟩, .string ⟨#[72]⟩, .string ⟨#[70]⟩, .string ⟨#[49, 126]⟩, .string ⟨#[55, 126]⟩, .string ⟨#[52, 126]⟩, .string ⟨#[56, 126]⟩, .string ⟨#[51, 126]⟩, .string ⟨#[53, 126]⟩, .string ⟨#[54, 126]⟩] 9)
  have b2 := below_alloc w1 (.cells #[.string ⟨#[65]⟩, .string ⟨#[66]⟩, .string ⟨#[67]⟩, .string ⟨#[68]⟩, .string ⟨#[72]⟩, .string ⟨#[70]⟩, .string ⟨#[49, 126]⟩, .string ⟨#[55, 126]⟩, .string ⟨#[52, 126]⟩, .string ⟨#[56, 126]⟩, .string ⟨#[51, 126]⟩, .string ⟨#[53, 126]⟩, .string ⟨#[54, 126]⟩] 9)
  have s2 : (w1.alloc (.cells #[.string ⟨#[65]⟩, .string ⟨#[66]⟩, .string ⟨#[67]⟩, .string ⟨#[68]⟩, .string ⟨#[72]⟩, .string ⟨#[70]⟩, .string ⟨#[49, 126]⟩, .string ⟨#[55, 126]⟩, .string ⟨#[52, 126]⟩, .string ⟨#[56, 126]⟩, .string ⟨#[51, 126]⟩, .string ⟨#[53, 126]⟩, .string ⟨#[54, 126]⟩] 9)).heap.size = w.heap.size + 1 + 1 := by simp [s1]
  rw [s1] at h2
  generalize w1.alloc (.cells #[.string ⟨#[65]⟩, .string ⟨#[66]⟩, .string ⟨#[67]⟩, .string ⟨#[68]⟩, .string ⟨#[72]⟩, .string ⟨#[70]⟩, .string ⟨#[49, 126]⟩, .string ⟨#[55, 126]⟩, .string ⟨#[52, 126]⟩, .string ⟨#[56, 126]⟩, .string ⟨#[51, 126]⟩, .string ⟨#[53, 126]⟩, .string ⟨#[54, 126]⟩] 9) = w2 at *
  have h3 := heap_alloc_new w2 (.cells #[.int .i64 7, .int .i64 8, .int .i64 9, .int .i64 10, .int .i64 11, .int .i64 12, .int .i64 11, .int .i64 11, .int .i64 12, .int .i64 12, .int .i64 13, .int .i64 14, .int .i64 14] 3)
  have b3 := below_alloc w2 (.cells #[.int .i64 7, .int .i64 8, .int .i64 9, .int .i64 10, .int .i64 11, .int .i64 12, .int .i64 11, .int .i64 11, .int .i64 12, .int .i64 12, .int .i64 13, .int .i64 14, .int .i64 14] 3)
  rw [s2] at h3
  exact ⟨blk_below (blk_below h1 b2) b3, nm_cell (blk_below h2 b3), kd_cell h3, seqB (seqB b1 b2) b3⟩
/-- A key's cells are set. -/
theorem row_put {W : World} {A : Nat} (h : W.heap[A]? = some (.cells #[.int .i64 0, .int .i64 0, .string ⟨#[]⟩, .bool false] 44 (0, 0))) (a b : Int) (s : ByteArray) (c : Bool) :
    ((((W.setCell ⟨A, 0, none⟩ (.int .i64 a)).setCell ⟨A, 1, none⟩ (.int .i64 b)).setCell ⟨A, 2, none⟩ (.string s)).setCell ⟨A, 3, none⟩ (.bool c)).heap[A]? = some (.cells #[.int .i64 a, .int .i64 b, .string s, .bool c] 44 (0, 0)) :=
  blk_set (blk_set (blk_set (blk_set h 0 _) 1 _) 2 _) 3 _
theorem infoKy4 : (Tryd.prog.info? 44).map (·.size) = some 4 := by kernel_rfl
end Go.Proofs.YtdafcjjlkjngmaaDoor
set_option linter.unusedVariables false
set_option linter.unusedSimpArgs false
namespace Go.Proofs.YtdafcjjlkjngmaaDoor
open Go.RowKit
/-- What waits and whether it is of a paste, and keys. -/
abbrev RG := (List UInt8 × Bool) × List Ky
/-- A byte where nothing waits. -/
def rbA (b : UInt8) : RG :=
  if b.toNat = 13 ∨ b.toNat = 10 then (([], false), [kv0 4 b.toNat]) else if b.toNat = 27 then (([27], false), []) else ((frW b, false), frK b)
def rbN (P : List UInt8) (b : UInt8) : RG := ((rbA b).1, rsK P ++ (rbA b).2)
/-- A byte where 27, and more, waits. -/
def rbE (P : List UInt8) (b : UInt8) : RG :=
  if P = [27] then (if b.toNat = 91 ∨ b.toNat = 79 then ((P ++ [b], false), []) else if b.toNat ≤ 127 then (([], false), [kv0 3 b.toNat]) else rbN P b)
  else if P = [27, 79] then (if (64 ≤ b.toNat ∧ b.toNat ≤ 72) ∧ (knK [b]).1 ≠ 0 then (([], false), keK (knK [b])) else if 32 ≤ b.toNat ∧ b.toNat ≤ 126 then (([], false), []) else rbN P b)
  else if 32 ≤ b.toNat ∧ b.toNat ≤ 63 then ((P ++ [b], false), [])
  else if 64 ≤ b.toNat ∧ b.toNat ≤ 126 then (if (P ++ [b]).drop 2 = [50, 48, 48, 126] then (([], true), []) else (([], false), keK (knK ((P ++ [b]).drop 2))))
  else rbN P b
/-- A byte where the beginning of a value waits. -/
def rbU (P : List UInt8) (b : UInt8) : RG :=
  if partB (mkL (P ++ [b])) = true then ((P ++ [b], false), [])
  else if (vAt (mkL (P ++ [b])) 0).2 ≠ P.length + 1 then rbN P b
  else (([], false), [kv0 1 (vAt (mkL (P ++ [b])) 0).1])
/-- A byte outside a paste. -/
def rbR (P : List UInt8) (b : UInt8) : RG :=
  if P = [] then rbA b
  else if b.toNat = 13 ∨ b.toNat = 10 then (([], false), rsK P ++ [kv0 4 b.toNat])
  else if b.toNat = 27 then (([27], false), rsK P)
  else if P.getD 0 0 = 27 then rbE P b
  else rbU P b
/-- A byte in a paste. -/
def rbP (m : Int) (P : List UInt8) (b : UInt8) : RG :=
  if peL <:+ P ++ [b] then (([], false), [(15, 0, mkL ((P ++ [b]).take (min ((P.length : Int) + 1 - 6) m).toNat), decide (min ((P.length : Int) + 1 - 6) m < (P.length : Int) + 1 - 6))])
  else ((P ++ [b], true), [])
/-- An item. -/
def riR (m : Int) (r : List UInt8 × Bool) (x : Bool × UInt8) : RG :=
  if r.2 = true then (if x.1 = true then (r, []) else rbP m r.1 x.2) else if x.1 = true then (([], false), rsK r.1) else rbR r.1 x.2
/-- How much of a paste's end stands behind. -/
def JM (P : List UInt8) (m : Nat) : Prop := m < 6 ∧ ∀ k, k ≤ 5 → (peL.take k <:+ P ↔ k = 0 ∨ k = m)
/-- What an input holds, and what the document says. -/
structure Rl (s : IS) (r : List UInt8 × Bool) : Prop where
  p : s.pas = r.2
  w : r.2 = false → (r.1 = [] ∧ s.wait = []) ∨ (r.1 = [27] ∧ s.wait = [27]) ∨ (r.1 = [27, 79] ∧ s.wait = [27, 79]) ∨ (∃ g, r.1 = 27 :: 91 :: g ∧ s.wait = 27 :: 91 :: g.take 4) ∨ (pB (mkL r.1) = true ∧ r.1.getD 0 0 ≠ 27 ∧ s.wait = r.1)
  q : r.2 = true → s.wait = [] ∧ s.pb = r.1.take (s.most + 6).toNat ∧ s.ct = r.1.length ∧ JM r.1 s.mt
theorem snoc_suffix (l P : List UInt8) (a b : UInt8) : l ++ [a] <:+ P ++ [b] ↔ a = b ∧ l <:+ P := by
  constructor
  · rintro ⟨t, h⟩
    rw [← List.append_assoc] at h
    obtain ⟨h1, h2⟩ := List.append_inj' h rfl
    exact ⟨by simpa using h2, ⟨t, h1⟩⟩
  · rintro ⟨rfl, t, h⟩
    exact ⟨t, by rw [← List.append_assoc, h]⟩
theorem jm_nil : JM [] 0 := ⟨by decide, fun k hk => by
  rcases (by omega : k = 0 ∨ k = 1 ∨ k = 2 ∨ k = 3 ∨ k = 4 ∨ k = 5) with rfl | rfl | rfl | rfl | rfl | rfl <;> simp [peL]⟩
theorem peL_take (k : Nat) (h : k < 6) : peL.take (k + 1) = peL.take k ++ [peL.getD k 0] := by
  rcases (by omega : k = 0 ∨ k = 1 ∨ k = 2 ∨ k = 3 ∨ k = 4 ∨ k = 5) with rfl | rfl | rfl | rfl | rfl | rfl <;> rfl
theorem peL_27 (k : Nat) (h : k < 6) : peL.getD k 0 = 27 ↔ k = 0 := by
  rcases (by omega : k = 0 ∨ k = 1 ∨ k = 2 ∨ k = 3 ∨ k = 4 ∨ k = 5) with rfl | rfl | rfl | rfl | rfl | rfl <;> decide
theorem jm_step {P : List UInt8} {m : Nat} (h : JM P m) (b : UInt8) (j : Nat) (hj : j ≤ 6) : peL.take j <:+ P ++ [b] ↔ j = 0 ∨ j = ipM m b := by
  rcases j with _ | k
  · simp
  · rw [peL_take k (by omega), snoc_suffix, h.2 k (by omega)]
    have h27 := peL_27 k (by omega)
    have h27m := peL_27 m h.1
    unfold ipM
    constructor
    · rintro ⟨rfl, rfl | rfl⟩
      · right
        have e : peL.getD 0 0 = 27 := rfl
        by_cases hm : peL.getD 0 0 = peL.getD m 0
        · rw [if_pos hm]
          rw [e] at hm
          have := h27m.1 hm.symm
          omega
        · rw [if_neg hm, if_pos e]
      · right; rw [if_pos rfl]
    · rintro (h0 | h0)
      · omega
      · split at h0
        · rename_i e
          obtain rfl : k = m := by omega
          exact ⟨e.symm, Or.inr rfl⟩
        · split at h0
          · rename_i e
            obtain rfl : k = 0 := by omega
            exact ⟨e.symm, Or.inl rfl⟩
          · omega
theorem take_take6 (l : List UInt8) (b : UInt8) (n : Nat) : (if (l.take n).length < n then l.take n ++ [b] else l.take n) = (l ++ [b]).take n := by
  rw [List.length_take]
  split
  · rename_i h
    rw [List.take_of_length_le (by omega : l.length ≤ n), List.take_of_length_le (by rw [List.length_append, List.length_singleton]; omega)]
  · rename_i h
    rw [List.take_append_of_le_length (by omega)]
theorem kn_one (b : UInt8) : knK [b] = kv0 (letF b.toNat) 0 := by
  have : ∀ n : Fin 256, knK [UInt8.ofNat n.val] = kv0 (letF ((UInt8.ofNat n.val).toNat : Int)) 0 := by decide +kernel
  have h := this ⟨b.toNat, b.toNat_lt⟩
  simpa using h
theorem kn_two (c b : UInt8) (hb : 64 ≤ b.toNat) : keK (knK [c, b]) = dnK [c] b := by
  by_cases hb2 : b.toNat = 126
  · obtain rfl : b = 126 := u8_eq hb2 (by decide)
    have : ∀ n : Fin 256, keK (knK [UInt8.ofNat n.val, 126]) = dnK [UInt8.ofNat n.val] 126 := by decide +kernel
    have h := this ⟨c.toNat, c.toNat_lt⟩
    simpa using h
  · have hne : b ≠ 126 := fun e => hb2 (by rw [e]; rfl)
    have e1 : dnK [c] b = [] := by unfold dnK; rw [if_neg hb2, if_neg (by simp)]
    have e2 : knK [c, b] = kv0 0 0 := by
      have h1 : ∀ a : UInt8, ([a, 126] : List UInt8) ≠ [c, b] := fun a e => hne (by simp at e; exact e.2.symm)
      have h2 : ∀ a : UInt8, ([a] : List UInt8) ≠ [c, b] := fun a e => by simp at e
      simp [knK, knF, nmL, h1, h2]
    rw [e1, e2]; rfl
theorem kn_long (g : List UInt8) (hg : 3 ≤ g.length) : knK g = kv0 0 0 := by
  have h1 : ∀ a : UInt8, ([a] : List UInt8) ≠ g := fun a e => by rw [← e] at hg; simp at hg
  have h2 : ∀ a c : UInt8, ([a, c] : List UInt8) ≠ g := fun a c e => by rw [← e] at hg; simp at hg
  simp [knK, knF, nmL, h1, h2]
theorem kn_dn (g : List UInt8) (b : UInt8) (hb : 64 ≤ b.toNat) : keK (knK (g ++ [b])) = dnK (g.take 4) b := by
  rcases g with _ | ⟨c, _ | ⟨d, g⟩⟩
  · have e : knK ([] ++ [b]) = kv0 (letF b.toNat) 0 := kn_one b
    rw [e, List.take_nil]
    unfold dnK
    by_cases h : b.toNat = 126
    · rw [if_pos h, h]; rfl
    · rw [if_neg h, if_pos rfl]; rfl
  · exact kn_two c b hb
  · rw [kn_long _ (by simp)]
    have e : (c :: d :: g).take 4 = c :: d :: g.take 2 := rfl
    rw [e]
    unfold dnK sgK
    simp
    rfl
end Go.Proofs.YtdafcjjlkjngmaaDoor
set_option linter.unusedVariables false
set_option linter.unusedSimpArgs false
namespace Go.Proofs.YtdafcjjlkjngmaaDoor
open Go.RowKit
theorem pB_27 (P : List UInt8) (h : P.getD 0 0 = 27) : pB (mkL P) = false := by
  rw [← Bool.not_eq_true]
  intro hp
  unfold pB at hp
  rw [Bool.and_eq_true] at hp
  obtain ⟨h1, h2⟩ := hp
  have h3 := ((partB_iff _).1 h2).2
  rcases P with _ | ⟨c, P⟩
  · cases h
  have hc : c = 27 := h
  subst hc
  rw [show (mkL (27 :: P)).get! 0 = 27 from rfl] at h3
  rw [mkL_size] at h3
  have : sizeB (27 : UInt8).toNat = 1 := by decide
  rw [this, List.length_cons] at h3
  omega
theorem pB_nil : pB (mkL []) = false := by decide
theorem rs_st {s : IS} {r : List UInt8 × Bool} (h : Rl s r) (hr : r.2 = false) : rsK r.1 = stK s.wait := by
  rcases h.w hr with ⟨h1, h2⟩ | ⟨h1, h2⟩ | ⟨h1, h2⟩ | ⟨g, h1, h2⟩ | ⟨h1, h2, h3⟩
  · rw [h1, h2]; unfold rsK stK; rw [if_neg (by simp), if_neg (by decide), if_neg (by simp), if_neg (by rw [pB_nil]; decide)]; rfl
  · rw [h1, h2]; rfl
  · rw [h1, h2]; unfold rsK stK; rw [if_neg (by decide), if_pos (show ([27, 79] : List UInt8).getD 0 0 = 27 from rfl), if_neg (by decide), if_neg (by rw [pB_27 _ rfl]; decide)]
  · rw [h1, h2]; unfold rsK stK; rw [if_neg (by simp), if_pos (show (27 :: 91 :: g).getD 0 0 = 27 from rfl), if_neg (by simp), if_neg (by rw [pB_27 _ rfl]; decide)]
  · rw [h3]
    have h27 : r.1 ≠ [27] := fun e => h2 (by rw [e]; rfl)
    unfold rsK stK; rw [if_neg h27, if_neg h2, if_neg h27, if_pos h1]
/-- The relation where nothing is pasted. -/
theorem rl_of {s : IS} {P : List UInt8} (hp : s.pas = false) (h : (P = [] ∧ s.wait = []) ∨ (P = [27] ∧ s.wait = [27]) ∨ (P = [27, 79] ∧ s.wait = [27, 79]) ∨ (∃ g, P = 27 :: 91 :: g ∧ s.wait = 27 :: 91 :: g.take 4) ∨ (pB (mkL P) = true ∧ P.getD 0 0 ≠ 27 ∧ s.wait = P)) : Rl s (P, false) :=
  ⟨hp, fun _ => h, fun e => by cases e⟩
theorem rl_fr {s : IS} (hp : s.pas = false) (b : UInt8) : Rl { s with wait := frW b } (frW b, false) := by
  refine rl_of hp ?_
  unfold frW
  split
  · rename_i h
    refine Or.inr (Or.inr (Or.inr (Or.inr ⟨h.2, fun e => ?_, rfl⟩)))
    have e' : b = 27 := e
    rw [e'] at h
    exact absurd h.1 (by decide)
  · exact Or.inl ⟨rfl, rfl⟩
theorem pB_part (P : List UInt8) (b : UInt8) : pB (mkL (P ++ [b])) = partB (mkL (P ++ [b])) := by
  unfold pB
  rw [decide_eq_true (by rw [mkL_size, List.length_append, List.length_singleton]; omega)]; rfl
theorem oneS_v (P : List UInt8) (b : UInt8) : oneS (mkL (P ++ [b])) = vAt (mkL (P ++ [b])) 0 := by
  unfold oneS
  rw [if_neg (by rw [mkL_size, List.length_append, List.length_singleton]; omega)]
theorem getD_app (P : List UInt8) (b : UInt8) (h : P ≠ []) : (P ++ [b]).getD 0 0 = P.getD 0 0 := by
  rcases P with _ | ⟨c, P⟩
  · exact absurd rfl h
  · rfl
section
variable {P : List UInt8} {b : UInt8}
/-- What is answered behind 27 alone. -/
theorem rbE_27 (hP : P = [27]) : rbE P b = (if b.toNat = 91 ∨ b.toNat = 79 then ((P ++ [b], false), []) else if b.toNat ≤ 127 then (([], false), [kv0 3 b.toNat]) else rbN P b) := by unfold rbE; rw [if_pos hP]
theorem rbE_79 (hP : P = [27, 79]) : rbE P b = (if (64 ≤ b.toNat ∧ b.toNat ≤ 72) ∧ (knK [b]).1 ≠ 0 then (([], false), keK (knK [b])) else if 32 ≤ b.toNat ∧ b.toNat ≤ 126 then (([], false), []) else rbN P b) := by
  unfold rbE; rw [if_neg (by rw [hP]; decide), if_pos hP]
theorem rbE_no (h1 : P ≠ [27]) (h2 : P ≠ [27, 79]) : rbE P b = (if 32 ≤ b.toNat ∧ b.toNat ≤ 63 then ((P ++ [b], false), []) else if 64 ≤ b.toNat ∧ b.toNat ≤ 126 then (if (P ++ [b]).drop 2 = [50, 48, 48, 126] then (([], true), []) else (([], false), keK (knK ((P ++ [b]).drop 2)))) else rbN P b) := by
  unfold rbE; rw [if_neg h1, if_neg h2]
end
/-- What a byte behind what waits leaves. -/
def bhG (s : IS) (b : UInt8) : IS × List Ky := if (bhR s b).2.2 = true then ({ s with wait := frW b }, (bhR s b).2.1 ++ frK b) else ((bhR s b).1, (bhR s b).2.1)
theorem bhG_t {s : IS} {b : UInt8} {x : IS} {K : List Ky} (h : bhR s b = (x, K, true)) : bhG s b = ({ s with wait := frW b }, K ++ frK b) := by
  unfold bhG; rw [h]; rfl
theorem bhG_f {s : IS} {b : UInt8} {x : IS} {K : List Ky} (h : bhR s b = (x, K, false)) : bhG s b = (x, K) := by
  unfold bhG; rw [h]; rfl
def rbG (P : List UInt8) (b : UInt8) : RG := if P.getD 0 0 = 27 then rbE P b else rbU P b
/-- A byte behind what waits, which is no Enter and no 27. -/
theorem rl_bh {s : IS} {P : List UInt8} (h : Rl s (P, false)) (hP : P ≠ []) (b : UInt8) (h13 : ¬ (b.toNat = 13 ∨ b.toNat = 10)) (h27 : ¬ b.toNat = 27) :
    Rl (bhG s b).1 (rbG P b).1 ∧ (bhG s b).2 = (rbG P b).2 ∧ (bhG s b).1.most = s.most := by
  have hp : s.pas = false := h.p
  have hst : rsK P = stK s.wait := rs_st h rfl
  have hA : rbA b = ((frW b, false), frK b) := by unfold rbA; rw [if_neg h13, if_neg h27]
  have hN : rbN P b = ((frW b, false), stK s.wait ++ frK b) := by unfold rbN; rw [hA, hst]
  have hlt := b.toNat_lt
  have hC1 : P.getD 0 0 = 27 → rbG P b = rbE P b := fun e => if_pos e
  rcases h.w rfl with ⟨h1, h2⟩ | ⟨h1, h2⟩ | ⟨h1, h2⟩ | ⟨g, h1, h2⟩ | ⟨h1, h2, h3⟩
  · exact absurd h1 hP
  · dsimp only at h1
    have e : bhR s b = ({ s with wait := (beS b).1 }, (beS b).2.1, (beS b).2.2) := by unfold bhR; rw [if_pos h2]
    rw [hC1 (by rw [h1]; rfl), rbE_27 h1, hN, h2]
    by_cases c1 : b.toNat = 91 ∨ b.toNat = 79
    · have hb : beS b = ([27, b], [], false) := by unfold beS; rw [if_pos c1]
      rw [hb] at e
      rw [bhG_f e, if_pos c1]
      refine ⟨rl_of hp ?_, rfl, rfl⟩
      rw [h1]
      rcases c1 with c | c
      · obtain rfl : b = 91 := u8_eq c (by decide)
        exact Or.inr (Or.inr (Or.inr (Or.inl ⟨[], rfl, rfl⟩)))
      · obtain rfl : b = 79 := u8_eq c (by decide)
        exact Or.inr (Or.inr (Or.inl ⟨rfl, rfl⟩))
    · rw [if_neg c1]
      by_cases c2 : b.toNat ≤ 127
      · have hb : beS b = ([], [kv0 3 b.toNat], false) := by unfold beS; rw [if_neg c1, if_pos c2]
        rw [hb] at e
        rw [bhG_f e, if_pos c2]
        exact ⟨rl_of hp (Or.inl ⟨rfl, rfl⟩), rfl, rfl⟩
      · have hb : beS b = ([], [kv0 5 0], true) := by unfold beS; rw [if_neg c1, if_neg c2]
        rw [hb] at e
        rw [bhG_t e, if_neg c2]
        exact ⟨rl_fr hp b, rfl, rfl⟩
  · dsimp only at h1
    have e : bhR s b = ({ s with wait := [] }, lkK b, decide (b.toNat < 32 ∨ 126 < b.toNat)) := by unfold bhR; rw [if_neg (by rw [h2]; decide), if_pos h2]
    have hs0 : stK s.wait = [] := by rw [h2]; unfold stK; rw [if_neg (by decide), if_neg (by rw [pB_27 _ rfl]; decide)]
    rw [hC1 (by rw [h1]; rfl), rbE_79 h1, hN, hs0, kn_one]
    by_cases c1 : b.toNat < 32 ∨ 126 < b.toNat
    · have hl : letF b.toNat = 0 := letF_none (by omega) (by omega) (by omega) (by omega) (by omega) (by omega)
      have hk : lkK b = [] := by unfold lkK; rw [if_pos hl]
      rw [decide_eq_true c1, hk] at e
      rw [bhG_t e, if_neg (by omega), if_neg (by omega)]
      exact ⟨rl_fr hp b, rfl, rfl⟩
    · rw [decide_eq_false c1] at e
      rw [bhG_f e]
      by_cases c2 : letF b.toNat = 0
      · have hk : lkK b = [] := by unfold lkK; rw [if_pos c2]
        rw [if_neg (fun hh => hh.2 c2), if_pos (by omega), hk]
        exact ⟨rl_of hp (Or.inl ⟨rfl, rfl⟩), rfl, rfl⟩
      · have hb : 64 ≤ b.toNat ∧ b.toNat ≤ 72 := by
          refine Decidable.byContradiction fun hn => c2 (letF_none ?_ ?_ ?_ ?_ ?_ ?_) <;> omega
        have hk : lkK b = [kv0 (letF b.toNat) 0] := by unfold lkK; rw [if_neg c2]
        have hk2 : keK (kv0 (letF b.toNat) 0) = [kv0 (letF b.toNat) 0] := by unfold keK; rw [if_neg (show ¬ (kv0 (letF b.toNat) 0).1 = 0 from c2)]
        rw [if_pos ⟨hb, c2⟩, hk, hk2]
        exact ⟨rl_of hp (Or.inl ⟨rfl, rfl⟩), rfl, rfl⟩
  · dsimp only at h1
    have n1 : s.wait ≠ [27] := by rw [h2]; simp
    have n2 : s.wait ≠ [27, 79] := by rw [h2]; simp
    have e : bhR s b = (bcS s (g.take 4) b, bcK (g.take 4) b, bcB b) := by unfold bhR; rw [if_neg n1, if_neg n2, if_pos (by rw [h2]; rfl), h2]; rfl
    have hs0 : stK s.wait = [] := by rw [h2]; unfold stK; rw [if_neg (by simp), if_neg (by rw [pB_27 _ rfl]; decide)]
    have hd : (P ++ [b]).drop 2 = g ++ [b] := by rw [h1]; rfl
    rw [hC1 (by rw [h1]; rfl), rbE_no (by rw [h1]; simp) (by rw [h1]; simp), hN, hs0, hd]
    by_cases c1 : 32 ≤ b.toNat ∧ b.toNat ≤ 63
    · have e1 : bcS s (g.take 4) b = { s with wait := bcW (g.take 4) b } := by unfold bcS; rw [if_neg (by omega)]
      have e2 : bcK (g.take 4) b = [] := by unfold bcK; rw [if_neg (by omega)]
      have e3 : bcB b = false := by unfold bcB; rw [decide_eq_true (by omega)]; rfl
      rw [e1, e2, e3] at e
      rw [bhG_f e, if_pos c1]
      refine ⟨rl_of hp ?_, rfl, rfl⟩
      refine Or.inr (Or.inr (Or.inr (Or.inl ⟨g ++ [b], by rw [h1]; rfl, ?_⟩)))
      have := take_take6 g b 4
      dsimp only
      rw [← this]
      unfold bcW
      rw [if_pos c1]
      split <;> rfl
    · rw [if_neg c1]
      by_cases c2 : 64 ≤ b.toNat ∧ b.toNat ≤ 126
      · have e1 : bcS s (g.take 4) b = dnS { s with wait := [] } (g.take 4) b := by unfold bcS; rw [if_pos c2]
        have e2 : bcK (g.take 4) b = dnK (g.take 4) b := by unfold bcK; rw [if_pos c2]
        have e3 : bcB b = false := by unfold bcB; rw [decide_eq_true (by omega)]; rfl
        have hkd := kn_dn g b c2.1
        rw [e1, e2, e3] at e
        rw [bhG_f e, if_pos c2]
        refine ⟨?_, ?_, ?_⟩
        · unfold dnS
          by_cases c3 : g ++ [b] = [50, 48, 48, 126]
          · have c4 : g = [50, 48, 48] ∧ b = 126 := by
              have := List.append_inj' (s₁ := g) (t₁ := [b]) (s₂ := [50, 48, 48]) (t₂ := [126]) c3 rfl
              exact ⟨this.1, by simpa using this.2⟩
            obtain ⟨rfl, rfl⟩ := c4
            exact ⟨rfl, fun e => (by cases e), fun _ => ⟨rfl, by simp, rfl, jm_nil⟩⟩
          · rw [if_neg c3]
            by_cases c5 : b.toNat = 126 ∧ g.take 4 = [50, 48, 48]
            · refine absurd ?_ c3
              have h4 : g = [50, 48, 48] := by
                have hl := congrArg List.length c5.2
                rw [List.length_take] at hl
                have hl2 : g.length ≤ 4 := by simp at hl; omega
                have h6 := c5.2
                rw [List.take_of_length_le hl2] at h6
                exact h6
              rw [h4, u8_eq c5.1 (by decide)]; rfl
            · rw [if_neg c5]
              exact rl_of hp (Or.inl ⟨rfl, rfl⟩)
        · by_cases c3 : g ++ [b] = [50, 48, 48, 126]
          · rw [if_pos c3, ← hkd, c3]; rfl
          · rw [if_neg c3, hkd]
        · unfold dnS; split <;> rfl
      · have e1 : bcS s (g.take 4) b = { s with wait := bcW (g.take 4) b } := by unfold bcS; rw [if_neg (by omega)]
        have e2 : bcK (g.take 4) b = [] := by unfold bcK; rw [if_neg (by omega)]
        have e3 : bcB b = true := by unfold bcB; rw [decide_eq_false (by omega)]; rfl
        rw [e1, e2, e3] at e
        rw [bhG_t e, if_neg c2]
        exact ⟨rl_fr hp b, rfl, rfl⟩
  · dsimp only at h1 h2 h3
    have e : bhR s b = ({ s with wait := buW s.wait b }, buK s.wait b, buB s.wait b) := by
      unfold bhR
      rw [h3, if_neg (fun e => h2 (by rw [e]; rfl)), if_neg (fun e => h2 (by rw [e]; rfl)), if_neg h2]
    have hC2 : rbG P b = rbU P b := if_neg h2
    rw [hC2]
    unfold rbU
    rw [hN]
    by_cases c1 : partB (mkL (P ++ [b])) = true
    · have e1 : buW s.wait b = P ++ [b] := by unfold buW; rw [h3, pB_part, if_pos c1]
      have e2 : buK s.wait b = [] := by unfold buK; rw [h3, pB_part, if_pos c1]
      have e3 : buB s.wait b = false := by unfold buB; rw [h3, pB_part, c1]; rfl
      rw [e1, e2, e3] at e
      rw [bhG_f e, if_pos c1]
      refine ⟨rl_of hp ?_, rfl, rfl⟩
      exact Or.inr (Or.inr (Or.inr (Or.inr ⟨by rw [pB_part]; exact c1, by rw [getD_app P b hP]; exact h2, rfl⟩)))
    · have c1' : partB (mkL (P ++ [b])) = false := by simpa using c1
      have e1 : buW s.wait b = [] := by unfold buW; rw [h3, pB_part, if_neg c1]
      rw [if_neg c1]
      by_cases c2 : (vAt (mkL (P ++ [b])) 0).2 = P.length + 1
      · have e2 : buK s.wait b = [kv0 1 ((vAt (mkL (P ++ [b])) 0).1 : Int)] := by unfold buK; rw [h3, pB_part, if_neg c1, oneS_v, if_pos c2]
        have e3 : buB s.wait b = false := by unfold buB; rw [h3, pB_part, c1', oneS_v, decide_eq_true c2]; rfl
        rw [e1, e2, e3] at e
        rw [bhG_f e, if_neg (fun hh => hh c2)]
        exact ⟨rl_of hp (Or.inl ⟨rfl, rfl⟩), rfl, rfl⟩
      · have e2 : buK s.wait b = stK s.wait := by unfold buK; rw [h3, pB_part, if_neg c1, oneS_v, if_neg c2]
        have e3 : buB s.wait b = true := by unfold buB; rw [h3, pB_part, c1', oneS_v, decide_eq_false c2]; rfl
        rw [e1, e2, e3] at e
        rw [bhG_t e, if_pos c2]
        exact ⟨rl_fr hp b, rfl, rfl⟩
/-- A byte outside a paste. -/
theorem rl_tk {s : IS} {P : List UInt8} (h : Rl s (P, false)) (b : UInt8) : (tkR s b).2 = (rbR P b).2 ∧ Rl (tkR s b).1 (rbR P b).1 ∧ (tkR s b).1.most = s.most := by
  have hp : s.pas = false := h.p
  have hst : rsK P = stK s.wait := rs_st h rfl
  unfold tkR rbR
  by_cases hP : P = []
  · have hw : s.wait = [] := by
      rcases h.w rfl with ⟨h1, h2⟩ | ⟨h1, h2⟩ | ⟨h1, h2⟩ | ⟨g, h1, h2⟩ | ⟨h1, h2, h3⟩
      · exact h2
      · dsimp only at h1; rw [hP] at h1; cases h1
      · dsimp only at h1; rw [hP] at h1; cases h1
      · dsimp only at h1; rw [hP] at h1; cases h1
      · dsimp only at h3; rw [h3, hP]
    have hs0 : stK s.wait = [] := by rw [← hst, hP]; unfold rsK; rw [if_neg (by simp), if_neg (by decide)]; rfl
    rw [if_pos hP, hs0]
    unfold rbA
    by_cases c1 : b.toNat = 13 ∨ b.toNat = 10
    · rw [if_pos c1, if_pos c1]; exact ⟨rfl, rl_of hp (Or.inl ⟨rfl, rfl⟩), rfl⟩
    rw [if_neg c1, if_neg c1]
    by_cases c2 : b.toNat = 27
    · rw [if_pos c2, if_pos c2]; exact ⟨rfl, rl_of hp (Or.inr (Or.inl ⟨rfl, rfl⟩)), rfl⟩
    rw [if_neg c2, if_neg c2, if_pos hw]
    exact ⟨rfl, rl_fr hp b, rfl⟩
  · rw [if_neg hP, hst]
    by_cases c1 : b.toNat = 13 ∨ b.toNat = 10
    · rw [if_pos c1, if_pos c1]; exact ⟨rfl, rl_of hp (Or.inl ⟨rfl, rfl⟩), rfl⟩
    rw [if_neg c1, if_neg c1]
    by_cases c2 : b.toNat = 27
    · rw [if_pos c2, if_pos c2]; exact ⟨rfl, rl_of hp (Or.inr (Or.inl ⟨rfl, rfl⟩)), rfl⟩
    have hw : s.wait ≠ [] := by
      rcases h.w rfl with ⟨h1, h2⟩ | ⟨h1, h2⟩ | ⟨h1, h2⟩ | ⟨g, h1, h2⟩ | ⟨h1, h2, h3⟩
      · exact absurd h1 hP
      · rw [h2]; simp
      · rw [h2]; simp
      · rw [h2]; simp
      · dsimp only at h3; rw [h3]; exact hP
    rw [if_neg c2, if_neg c2, if_neg hw]
    obtain ⟨e1, e2, e3⟩ := rl_bh h hP b c1 c2
    exact ⟨e2, e1, e3⟩
/-- A byte in a paste. -/
theorem rl_ip {s : IS} {P : List UInt8} (h : Rl s (P, true)) (hm : 1 ≤ s.most) (b : UInt8) : (ipR s b).2 = (rbP s.most P b).2 ∧ Rl (ipR s b).1 (rbP s.most P b).1 ∧ (ipR s b).1.most = s.most := by
  have hp : s.pas = true := h.p
  obtain ⟨h1, h2, h3, h4⟩ := h.q rfl
  dsimp only at h2 h3 h4
  have h5 := jm_step h4 b
  have h6 := h5 6 (by omega)
  have hB : ipB s b = (P ++ [b]).take (s.most + 6).toNat := by
    unfold ipB
    rw [h2, ← take_take6]
    have hx : (((P.take (s.most + 6).toNat).length : Int) < s.most + 6) ↔ ((P.take (s.most + 6).toNat).length < (s.most + 6).toNat) := by omega
    by_cases c : (P.take (s.most + 6).toNat).length < (s.most + 6).toNat
    · rw [if_pos c, if_pos (hx.2 c)]
    · rw [if_neg c, if_neg (fun hh => c (hx.1 hh))]
  have hle : ipM s.mt b ≤ 6 := by
    have h41 := h4.1
    have := ipM_le h41 b
    omega
  rw [show peL.take 6 = peL from rfl] at h6
  unfold ipR rbP
  rw [hB]
  by_cases c : ipM s.mt b < 6
  · rw [if_pos c, if_neg (fun hh => by have := h6.1 hh; omega)]
    refine ⟨rfl, ⟨hp, fun e => (by cases e), fun _ => ⟨h1, rfl, ?_, c, fun k hk => h5 k (by omega)⟩⟩, rfl⟩
    show s.ct + 1 = (P ++ [b]).length
    rw [List.length_append, List.length_singleton, h3]
  · rw [if_neg c, if_pos (h6.2 (by omega)), h3]
    refine ⟨?_, rl_of rfl (Or.inl ⟨rfl, h1⟩), rfl⟩
    dsimp only
    rw [List.take_take]
    have : min (min ((P.length : Int) + 1 - 6) s.most).toNat (s.most + 6).toNat = (min ((P.length : Int) + 1 - 6) s.most).toNat := by omega
    rw [this]
/-- An item. -/
theorem rl_it {s : IS} {r : List UInt8 × Bool} (h : Rl s r) (hm : 1 ≤ s.most) (x : Bool × UInt8) : (itR s x).2 = (riR s.most r x).2 ∧ Rl (itR s x).1 (riR s.most r x).1 ∧ (itR s x).1.most = s.most := by
  obtain ⟨P, pas⟩ := r
  obtain ⟨t, b⟩ := x
  have hp : s.pas = pas := h.p
  cases pas
  · have hn : ¬ s.pas = true := by rw [hp]; decide
    cases t
    · have e1 : itR s (false, b) = tkR s b := by unfold itR; rw [if_neg hn]; rfl
      have e2 : riR s.most (P, false) (false, b) = rbR P b := rfl
      rw [e1, e2]
      exact rl_tk h _
    · have e1 : itR s (true, b) = ({ s with wait := [] }, stK s.wait) := by unfold itR; rw [if_neg hn]; rfl
      have e2 : riR s.most (P, false) (true, b) = (([], false), rsK P) := rfl
      rw [e1, e2]
      exact ⟨(rs_st h rfl).symm, rl_of hp (Or.inl ⟨rfl, rfl⟩), rfl⟩
  · cases t
    · have e1 : itR s (false, b) = ipR s b := by unfold itR; rw [if_pos hp]; rfl
      have e2 : riR s.most (P, true) (false, b) = rbP s.most P b := rfl
      rw [e1, e2]
      exact rl_ip h hm _
    · have e1 : itR s (true, b) = (s, []) := by unfold itR; rw [if_pos hp]; rfl
      have e2 : riR s.most (P, true) (true, b) = ((P, true), []) := rfl
      rw [e1, e2]
      exact ⟨rfl, h, rfl⟩
theorem rl_0 (m : Int) : Rl (in0 m) ([], false) := rl_of rfl (Or.inl ⟨rfl, rfl⟩)
/-- Items: what the document says of all of them. -/
def raR (m : Int) (r : List UInt8 × Bool) : List (Bool × UInt8) → RG
  | [] => (r, [])
  | x :: l => ((raR m (riR m r x).1 l).1, (riR m r x).2 ++ (raR m (riR m r x).1 l).2)
theorem rl_do {s : IS} {r : List UInt8 × Bool} (h : Rl s r) (hm : 1 ≤ s.most) (l : List (Bool × UInt8)) : (doR s l).2 = (raR s.most r l).2 ∧ Rl (doR s l).1 (raR s.most r l).1 ∧ (doR s l).1.most = s.most := by
  induction l generalizing s r with
  | nil => exact ⟨rfl, h, rfl⟩
  | cons x l ih =>
    obtain ⟨h1, h2, h3⟩ := rl_it h hm x
    obtain ⟨k1, k2, k3⟩ := ih h2 (by rw [h3]; exact hm)
    unfold doR raR
    rw [h3] at k1 k2 k3
    exact ⟨by rw [h1, k1], k2, k3⟩
/-- What waits is told. -/
theorem rl_waits {s : IS} {r : List UInt8 × Bool} (h : Rl s r) : (decide (s.wait ≠ []) || s.pas) = (r.2 || decide (r.1 ≠ [])) := by
  obtain ⟨P, pas⟩ := r
  have hp : s.pas = pas := h.p
  rw [hp]
  cases pas
  · dsimp only
    rw [Bool.or_false, Bool.false_or]
    rcases h.w rfl with ⟨h1, h2⟩ | ⟨h1, h2⟩ | ⟨h1, h2⟩ | ⟨g, h1, h2⟩ | ⟨h1, h2, h3⟩
    · dsimp only at h1; rw [h1, h2]
    · dsimp only at h1; rw [h1, h2]
    · dsimp only at h1; rw [h1, h2]
    · dsimp only at h1; rw [h1, h2]; simp
    · dsimp only at h3; rw [h3]
  · simp
end Go.Proofs.YtdafcjjlkjngmaaDoor
