/-
  Joined: In10 In11 In12 Itm Tp3 Tp5 Tp6 Tp7 Tp8 Tp10 Tp9.
-/
import Derived.Test.YtangpdaoacjinaaDoorJW02
import Derived.Test.YtangpdaoacjinaaDoorJW08
import Derived.Test.YtangpdaoacjinaaDoorJW09
import Derived.Test.YtangpdaoacjinaaDoorJW11
import Derived.Test.YtangpdaoacjinaaDoorJW12
import Derived.Test.YtangpdaoacjinaaDoorJW13
import Derived.Laws.BytesString
import Derived.Deep.Onto
import Derived.Deep.RegionHeld3
set_option linter.unusedVariables false
set_option linter.unusedSimpArgs false
set_option maxRecDepth 100000
set_option linter.unusedVariables false
set_option linter.unusedSimpArgs false
namespace Go.Proofs.YtangpdaoacjinaaDoor
open Go.RowKit
/-- What a paste ends with. -/
def peL : List UInt8 := [27, 91, 50, 48, 49, 126]
def ipM (m : Nat) (b : UInt8) : Nat := if b = peL.getD m 0 then m + 1 else if b = 27 then 1 else 0
def ipB (s : IS) (b : UInt8) : List UInt8 := if (s.pb.length : Int) < s.most + 6 then s.pb ++ [b] else s.pb
/-- A byte in a paste: the object and the keys. -/
def ipR (s : IS) (b : UInt8) : IS × List Ky :=
  if ipM s.mt b < 6 then ({ s with pb := ipB s b, ct := s.ct + 1, mt := ipM s.mt b }, [])
  else ({ s with pas := false, pb := [], ct := 0, mt := 0 }, [(15, 0, mkL ((ipB s b).take (min ((s.ct : Int) + 1 - 6) s.most).toNat), decide (min ((s.ct : Int) + 1 - 6) s.most < (s.ct : Int) + 1 - 6))])
theorem wrap_id0 (x : Int) (h0 : -9223372036854775808 ≤ x) (h1 : x ≤ 9223372036854775807) : IntKind.i64.wrap x = x := by
  rw [IntKind.wrap_i64]; omega
section
variable {S : Nat → Prop} {p q B : Nat} {s : IS} {K : List Ky} {w w' : World}
set_option maxHeartbeats 16000000 in
theorem inpaste_any (b : UInt8) (h : InS S p q B s K w) (hm : 1 ≤ s.most ∧ s.most ≤ 65536) (hmt : s.mt < 6) (hct : s.mt ≤ s.ct ∧ s.ct ≤ 100000) (hpb : (s.pb.length : Int) = min (s.ct : Int) (s.most + 6)) (hK : K.length ≤ 98900) :
    Calls Tryd.prog 195 #[.pointer (some ⟨p, 0, none⟩), .int .u8 (b.toNat : Int), .func (.func 194) #[] #[.pointer (some ⟨q, 0, none⟩)]] w fun e w' => e = .returned (.tuple #[]) ∧ InS S p q B (ipR s b).1 (K ++ (ipR s b).2) w' ∧ KeptM S w w' := by
  obtain ⟨M, wait, pas, pb, ct, mt⟩ := s
  dsimp only at hm hmt hct hpb
  have hlt : b.toNat < 256 := b.toNat_lt
  have H := Lib.hid h
  obtain ⟨n, hn⟩ : ∃ n, pb.length = n := ⟨_, rfl⟩
  rw [hn] at hpb
  have hn7 : n ≤ 70000 := by
    have h1 : (n : Int) ≤ M + 6 := by rw [hpb]; exact Int.min_le_right _ _
    have h2 := hm.2
    clear hpb
    omega
  have hc9 : (ct : Int) ≤ 100000 := by have := hct.2; clear hpb; omega
  have HPB := Lib.hid hpb
  clear hpb
  obtain ⟨x, hx⟩ : ∃ x : Int, (b.toNat : Int) = x := ⟨_, rfl⟩
  obtain ⟨y, hy⟩ : ∃ y : Int, ((peL.getD mt 0).toNat : Int) = y := ⟨_, rfl⟩
  have ix : ∀ w, (Instr.index 9 (.string ⟨#[27, 91, 50, 48, 49, 126]⟩) (.int .i64 (mt : Int))).run Tryd.prog w = .ok (.int .u8 y) w := fun w => by rw [← hy]; exact idx_run peL mt hmt w
  obtain ⟨bv, hO, c0, _, c2, c3, c4, c5, fz⟩ := h.cells
  dsimp only at hO c0 c2 c3 c4 c5
  obtain ⟨pa, pc, rfl⟩ := hO.form hn
  have WS6 : Hid (IntKind.i64.wrap (M + 6) = M + 6) := Lib.hid (wrap_id0 _ (by omega) (by omega))
  have hbx : Hid (∀ wx : World, (wx.alloc (.cells #[.int .u8 x] 5)).cell? ((⟨wx.heap.size, 0, none⟩ : Addr).add 0) = some (.int .u8 (b.toNat : Int))) := Lib.hid (fun wx => by
    rw [hx, show (⟨wx.heap.size, 0, none⟩ : Addr).add 0 = ⟨wx.heap.size, 0, none⟩ from rfl]; exact kcell wx (.int .u8 x) 5)
  have TL := Lib.hid (fun (s : IS) w k h => tellk_any (S := S) (p := p) (q := q) (B := B) (s := s) (K := K) (w := w) k h (by omega))
  have HN := Lib.hid hn
  rw [hx]
  have hpeq : b = peL.getD mt 0 ↔ x = y := by
    rw [← hx, ← hy]
    exact ⟨fun e => by rw [e], fun e => UInt8.toNat_inj.1 (Int.ofNat_inj.1 e)⟩
  have hb27 : b = 27 ↔ x = 27 := by
    rw [← hx]
    refine ⟨fun e => by subst e; rfl, fun e => ?_⟩
    have h2 : b.toNat = 27 := by omega
    exact UInt8.toNat_inj.1 h2
  by_cases hA : (n : Int) < M + 6
  · have eB : ipB ⟨M, wait, pas, pb, ct, mt⟩ b = pb ++ [b] := by unfold ipB; rw [if_pos (by dsimp only; rw [HN.out]; exact hA)]
    by_cases hxy : x = y
    · have em : ipM mt b = mt + 1 := by unfold ipM; rw [if_pos (hpeq.2 hxy)]
      subst hxy
      by_cases h6 : mt + 1 < 6
      · have e : ipR ⟨M, wait, pas, pb, ct, mt⟩ b = (⟨M, wait, pas, pb ++ [b], ct + 1, mt + 1⟩, []) := by unfold ipR; dsimp only; rw [em, if_pos h6, eB]
        rw [e, List.append_nil]
        have h6i : (mt : Int) + 1 < 6 := by omega
        clear h hct hK hpeq hb27 hlt hx hy e em eB TL
        go_enter Tryd.func195, Tryd.ntmps195
        go_upto_region 1 with fail
        have ws6 := WS6.out
        go_quiet (fail)
        clear ws6
        have B0 : Below w.heap.size w (w.drewN nq) := ⟨rfl, rfl, rfl, Nat.le_refl _, fun _ _ => rfl⟩
        obtain ⟨W, hW⟩ : ∃ W, w.drewN nq = W := ⟨_, rfl⟩
        rw [hW] at B0 ⊢
        have H0 := Lib.hid (H.out.below B0)
        have K0 := Lib.hid (KeptM.of (S := S) B0 H.out.lt)
        have d0 := (B0.cell (p := ⟨p, 0, none⟩) H.out.p_lt.1).trans c0
        have d2 := (B0.cell (p := ⟨p, 2, none⟩) H.out.p_lt.1).trans c2
        have d3 := (B0.cell (p := ⟨p, 3, none⟩) H.out.p_lt.1).trans c3
        have d4 := (B0.cell (p := ⟨p, 4, none⟩) H.out.p_lt.1).trans c4
        have d5 := (B0.cell (p := ⟨p, 5, none⟩) H.out.p_lt.1).trans c5
        have O0 := Lib.hid (hO.below B0)
        clear hW B0 c0 c2 c3 c4 c5 fz hO
        have B1 := below_alloc W (.cells #[.int .u8 x] 5)
        have H1 := Lib.hid (H0.out.below B1)
        have O1 := Lib.hid (O0.out.below B1)
        have K1 := Lib.hid (K0.out.trans (KeptM.of (S := S) B1 H0.out.lt))
        have e3 := Lib.hid ((B1.cell (p := ⟨p, 3, none⟩) H0.out.p_lt.1).trans d3)
        clear B1
        go_wp2_with (at_builtin; refine wpList_app_u8 rfl _ _ rfl _ n pb rfl HN.out O1.out ⟨W.heap.size, 0, none⟩ b rfl (hbx.out W) ?g4 ?_)
        case g4 => omega
        intro ad5 c5 w5 o5 g5 p5
        have HF := Lib.hid (InS.putB H1.out e3.out (L := pb ++ [b]) o5 g5 (fun k h => (p5 k h).imp id (fun h => by simpa using h)))
        have HB := Lib.hid HF.out.1
        have KB := Lib.hid (K1.out.trans HF.out.2)
        obtain ⟨bv', kv', z1, z2, _⟩ := H1.out.ex
        have y3 := cell_of_row _ _ 3 _ _ _ z1
        rw [e3.out] at y3
        obtain rfl : bv' = .slice pa n pc := by simpa [inC] using y3.symm
        have z5 := (g5.block p H1.out.p_lt.1 (fun e => own_ne_kind z2 z1 tIn_ne_u e.symm)).trans z1
        have yy := fun i => cell_of_row _ _ i _ _ _ z5
        have f0 := yy 0; have f2 := yy 2; have f3 := yy 3; have f4 := yy 4; have f5 := yy 5
        dsimp [inC] at f0 f2 f3 f4 f5
        have ff := fun i => frozen_of_row _ p i _ _ z5
        have ff2 := ff 2; have ff3 := ff 3; have ff4 := ff 4; have ff5 := ff 5
        have Z5 := Lib.hid z5
        clear z1 z2 z5 yy y3 ff o5 g5 p5 d0 d2 d3 d4 d5 e3 HF K1 K0
        have C1 := Lib.hid (HB.out.setC 4 (.int .i64 ((ct : Int) + 1)) ⟨M, wait, pas, pb ++ [b], ct + 1, mt⟩ (fun _ => rfl) rfl)
        have C2 := Lib.hid (C1.out.1.setC 5 (.int .i64 ((mt : Int) + 1)) ⟨M, wait, pas, pb ++ [b], ct + 1, mt + 1⟩ (fun _ => rfl) rfl)
        go_wp2
        refine bodyPost_ret (results_none rfl _ _ _) rfl ?_
        exact ⟨rfl, C2.out.1, (KB.out.trans C1.out.2).trans C2.out.2⟩
      · obtain rfl : mt = 5 := by omega
        obtain ⟨d, hd⟩ : ∃ d : Int, (ct : Int) + 1 - 6 = d := ⟨_, rfl⟩
        have hd0 : 0 ≤ d := by have := hct.1; omega
        have e : ipR ⟨M, wait, pas, pb, ct, 5⟩ b = (⟨M, wait, false, [], 0, 0⟩, [(15, 0, mkL ((pb ++ [b]).take (min d M).toNat), decide (min d M < d))]) := by unfold ipR; dsimp only; rw [em, if_neg h6, eB, hd]
        rw [e]
        have hne : pb ++ [b] ≠ [] := by
          intro e0
          have := congrArg List.length e0
          simp at this
        have hpl : (pb ++ [b]).length = n + 1 := by rw [List.length_append, HN.out]; rfl
        have hk1 : min d M ≤ (((pb ++ [b]).length : Nat) : Int) := by rw [hpl]; have := HPB.out; omega
        have hk0 : 0 ≤ min d M := by omega
        have ix5 : ∀ w, (Instr.index 9 (.string ⟨#[27, 91, 50, 48, 49, 126]⟩) (.int .i64 5)).run Tryd.prog w = .ok (.int .u8 x) w := ix
        clear h hct hK hpeq hb27 hlt hx hy e em eB h6
        go_enter Tryd.func195, Tryd.ntmps195
        go_upto_region 1 with fail
        have ws6 := WS6.out
        go_quiet (fail)
        clear ws6
        have B0 : Below w.heap.size w (w.drewN nq) := ⟨rfl, rfl, rfl, Nat.le_refl _, fun _ _ => rfl⟩
        obtain ⟨W, hW⟩ : ∃ W, w.drewN nq = W := ⟨_, rfl⟩
        rw [hW] at B0 ⊢
        have H0 := Lib.hid (H.out.below B0)
        have K0 := Lib.hid (KeptM.of (S := S) B0 H.out.lt)
        have d0 := (B0.cell (p := ⟨p, 0, none⟩) H.out.p_lt.1).trans c0
        have d2 := (B0.cell (p := ⟨p, 2, none⟩) H.out.p_lt.1).trans c2
        have d3 := (B0.cell (p := ⟨p, 3, none⟩) H.out.p_lt.1).trans c3
        have d4 := (B0.cell (p := ⟨p, 4, none⟩) H.out.p_lt.1).trans c4
        have d5 := (B0.cell (p := ⟨p, 5, none⟩) H.out.p_lt.1).trans c5
        have O0 := Lib.hid (hO.below B0)
        clear hW B0 c0 c2 c3 c4 c5 fz hO
        have B1 := below_alloc W (.cells #[.int .u8 x] 5)
        have H1 := Lib.hid (H0.out.below B1)
        have O1 := Lib.hid (O0.out.below B1)
        have K1 := Lib.hid (K0.out.trans (KeptM.of (S := S) B1 H0.out.lt))
        have e3 := Lib.hid ((B1.cell (p := ⟨p, 3, none⟩) H0.out.p_lt.1).trans d3)
        clear B1
        go_wp2_with (at_builtin; refine wpList_app_u8 rfl _ _ rfl _ n pb rfl HN.out O1.out ⟨W.heap.size, 0, none⟩ b rfl (hbx.out W) ?g4 ?_)
        case g4 => omega
        intro ad5 c5 w5 o5 g5 p5
        have HF := Lib.hid (InS.putB H1.out e3.out (L := pb ++ [b]) o5 g5 (fun k h => (p5 k h).imp id (fun h => by simpa using h)))
        have HB := Lib.hid HF.out.1
        have KB := Lib.hid (K1.out.trans HF.out.2)
        obtain ⟨bv', kv', z1, z2, _⟩ := H1.out.ex
        have y3 := cell_of_row _ _ 3 _ _ _ z1
        rw [e3.out] at y3
        obtain rfl : bv' = .slice pa n pc := by simpa [inC] using y3.symm
        have z5 := (g5.block p H1.out.p_lt.1 (fun e => own_ne_kind z2 z1 tIn_ne_u e.symm)).trans z1
        have yy := fun i => cell_of_row _ _ i _ _ _ z5
        have f0 := yy 0; have f2 := yy 2; have f3 := yy 3; have f4 := yy 4; have f5 := yy 5
        dsimp [inC] at f0 f2 f3 f4 f5
        have ff := fun i => frozen_of_row _ p i _ _ z5
        have ff2 := ff 2; have ff3 := ff 3; have ff4 := ff 4; have ff5 := ff 5
        have Z5 := Lib.hid z5
        clear z1 z2 z5 yy y3 ff o5 g5 p5 d0 d2 d3 d4 d5 e3 HF K1 K0
        have C1 := Lib.hid (HB.out.setC 4 (.int .i64 ((ct : Int) + 1)) ⟨M, wait, pas, pb ++ [b], ct + 1, 5⟩ (fun _ => rfl) rfl)
        have C2 := Lib.hid (C1.out.1.setC 5 (.int .i64 (6)) ⟨M, wait, pas, pb ++ [b], ct + 1, 6⟩ (fun _ => rfl) rfl)
        have zC := blk_set (blk_set (blk_set Z5.out 3 (.slice ad5 (n + 1) c5)) 4 (.int .i64 ((ct : Int) + 1))) 5 (.int .i64 6)
        obtain ⟨bv2, kv2, y1, y2, _⟩ := C2.out.1.ex
        have y3 := cell_of_row _ _ 3 _ _ _ y1
        rw [cell_of_row _ _ 3 _ _ _ zC] at y3
        obtain rfl : bv2 = .slice ad5 (n + 1) c5 := by simpa [inC] using y3.symm
        dsimp only at y2
        obtain ⟨g, c6, e6, hle6, hcv6⟩ := conv_ownU y2 hne
        obtain ⟨rfl, -, rfl⟩ := Value.slice.inj e6
        rw [hpl] at hle6
        have hkl : (min d M).toNat ≤ (pb ++ [b]).length := by omega
        have hcv7 := hcv6 (min d M).toNat hkl
        have hkc : (min d M).toNat ≤ c5 := by omega
        have hki : min d M ≤ (c5 : Int) := by omega
        have TL6 := Lib.hid (fun w h => TL.out ⟨M, wait, pas, pb ++ [b], ct + 1, 6⟩ w (15, 0, mkL ((pb ++ [b]).take (min d M).toNat), decide (min d M < d)) h)
        clear TL y1 y2 y3 zC hcv6 e6 hk1 Z5 hpl hkl hne ix
        go_wp2_with (go_at_call 194; refine (TL6.out _ C2.out.1).mono ?_; rintro e w7 ⟨rfl, h7, k7⟩; have H7 := Lib.hid h7; have K7 := Lib.hid k7; obtain ⟨_, _, _, _, _, _, _, _, gg⟩ := h7.cells; have g2 := gg 2; have g3 := gg 3; have g4 := gg 4; have g5 := gg 5; have X7 := Lib.hid (h7.setP false); clear h7 k7 gg)
        refine bodyPost_end (results_none rfl _ _ _) rfl ?_
        exact ⟨rfl, X7.out.1, (((KB.out.trans C1.out.2).trans C2.out.2).trans K7.out).trans X7.out.2⟩
    · have hxe : (x == y) = false := by simp [hxy]
      by_cases h27 : x = 27
      · have em : ipM mt b = 1 := by unfold ipM; rw [if_neg (fun h => hxy (hpeq.1 h)), if_pos (hb27.2 h27)]
        have e : ipR ⟨M, wait, pas, pb, ct, mt⟩ b = (⟨M, wait, pas, pb ++ [b], ct + 1, 1⟩, []) := by unfold ipR; dsimp only; rw [em, if_pos (by decide), eB]
        rw [e, List.append_nil]
        have h27' : (x == ((({ data := #[27, 91, 50, 48, 49, 126] } : ByteArray)[0]'(by decide)).toNat : Int)) = true := by rw [h27]; rfl
        clear h hct hK hpeq hb27 hlt hx hy e em eB TL h27 hxy
        go_enter Tryd.func195, Tryd.ntmps195
        go_upto_region 1 with fail
        have ws6 := WS6.out
        go_quiet (fail)
        clear ws6
        have B0 : Below w.heap.size w (w.drewN nq) := ⟨rfl, rfl, rfl, Nat.le_refl _, fun _ _ => rfl⟩
        obtain ⟨W, hW⟩ : ∃ W, w.drewN nq = W := ⟨_, rfl⟩
        rw [hW] at B0 ⊢
        have H0 := Lib.hid (H.out.below B0)
        have K0 := Lib.hid (KeptM.of (S := S) B0 H.out.lt)
        have d0 := (B0.cell (p := ⟨p, 0, none⟩) H.out.p_lt.1).trans c0
        have d2 := (B0.cell (p := ⟨p, 2, none⟩) H.out.p_lt.1).trans c2
        have d3 := (B0.cell (p := ⟨p, 3, none⟩) H.out.p_lt.1).trans c3
        have d4 := (B0.cell (p := ⟨p, 4, none⟩) H.out.p_lt.1).trans c4
        have d5 := (B0.cell (p := ⟨p, 5, none⟩) H.out.p_lt.1).trans c5
        have O0 := Lib.hid (hO.below B0)
        clear hW B0 c0 c2 c3 c4 c5 fz hO
        have B1 := below_alloc W (.cells #[.int .u8 x] 5)
        have H1 := Lib.hid (H0.out.below B1)
        have O1 := Lib.hid (O0.out.below B1)
        have K1 := Lib.hid (K0.out.trans (KeptM.of (S := S) B1 H0.out.lt))
        have e3 := Lib.hid ((B1.cell (p := ⟨p, 3, none⟩) H0.out.p_lt.1).trans d3)
        clear B1
        go_wp2_with (at_builtin; refine wpList_app_u8 rfl _ _ rfl _ n pb rfl HN.out O1.out ⟨W.heap.size, 0, none⟩ b rfl (hbx.out W) ?g4 ?_)
        case g4 => omega
        intro ad5 c5 w5 o5 g5 p5
        have HF := Lib.hid (InS.putB H1.out e3.out (L := pb ++ [b]) o5 g5 (fun k h => (p5 k h).imp id (fun h => by simpa using h)))
        have HB := Lib.hid HF.out.1
        have KB := Lib.hid (K1.out.trans HF.out.2)
        obtain ⟨bv', kv', z1, z2, _⟩ := H1.out.ex
        have y3 := cell_of_row _ _ 3 _ _ _ z1
        rw [e3.out] at y3
        obtain rfl : bv' = .slice pa n pc := by simpa [inC] using y3.symm
        have z5 := (g5.block p H1.out.p_lt.1 (fun e => own_ne_kind z2 z1 tIn_ne_u e.symm)).trans z1
        have yy := fun i => cell_of_row _ _ i _ _ _ z5
        have f0 := yy 0; have f2 := yy 2; have f3 := yy 3; have f4 := yy 4; have f5 := yy 5
        dsimp [inC] at f0 f2 f3 f4 f5
        have ff := fun i => frozen_of_row _ p i _ _ z5
        have ff2 := ff 2; have ff3 := ff 3; have ff4 := ff 4; have ff5 := ff 5
        have Z5 := Lib.hid z5
        clear z1 z2 z5 yy y3 ff o5 g5 p5 d0 d2 d3 d4 d5 e3 HF K1 K0
        have C1 := Lib.hid (HB.out.setC 4 (.int .i64 ((ct : Int) + 1)) ⟨M, wait, pas, pb ++ [b], ct + 1, mt⟩ (fun _ => rfl) rfl)
        have C2 := Lib.hid (C1.out.1.setC 5 (.int .i64 (1)) ⟨M, wait, pas, pb ++ [b], ct + 1, 1⟩ (fun _ => rfl) rfl)
        go_wp2
        refine bodyPost_ret (results_none rfl _ _ _) rfl ?_
        exact ⟨rfl, C2.out.1, (KB.out.trans C1.out.2).trans C2.out.2⟩
      · have em : ipM mt b = 0 := by unfold ipM; rw [if_neg (fun h => hxy (hpeq.1 h)), if_neg (fun h => h27 (hb27.1 h))]
        have e : ipR ⟨M, wait, pas, pb, ct, mt⟩ b = (⟨M, wait, pas, pb ++ [b], ct + 1, 0⟩, []) := by unfold ipR; dsimp only; rw [em, if_pos (by decide), eB]
        rw [e, List.append_nil]
        have h27'' : (x == 27) = false := by simp [h27]
        have h27' : (x == ((({ data := #[27, 91, 50, 48, 49, 126] } : ByteArray)[0]'(by decide)).toNat : Int)) = false := h27''
        clear h hct hK hpeq hb27 hlt hx hy e em eB TL h27 hxy
        go_enter Tryd.func195, Tryd.ntmps195
        go_upto_region 1 with fail
        have ws6 := WS6.out
        go_quiet (fail)
        clear ws6
        have B0 : Below w.heap.size w (w.drewN nq) := ⟨rfl, rfl, rfl, Nat.le_refl _, fun _ _ => rfl⟩
        obtain ⟨W, hW⟩ : ∃ W, w.drewN nq = W := ⟨_, rfl⟩
        rw [hW] at B0 ⊢
        have H0 := Lib.hid (H.out.below B0)
        have K0 := Lib.hid (KeptM.of (S := S) B0 H.out.lt)
        have d0 := (B0.cell (p := ⟨p, 0, none⟩) H.out.p_lt.1).trans c0
        have d2 := (B0.cell (p := ⟨p, 2, none⟩) H.out.p_lt.1).trans c2
        have d3 := (B0.cell (p := ⟨p, 3, none⟩) H.out.p_lt.1).trans c3
        have d4 := (B0.cell (p := ⟨p, 4, none⟩) H.out.p_lt.1).trans c4
        have d5 := (B0.cell (p := ⟨p, 5, none⟩) H.out.p_lt.1).trans c5
        have O0 := Lib.hid (hO.below B0)
        clear hW B0 c0 c2 c3 c4 c5 fz hO
        have B1 := below_alloc W (.cells #[.int .u8 x] 5)
        have H1 := Lib.hid (H0.out.below B1)
        have O1 := Lib.hid (O0.out.below B1)
        have K1 := Lib.hid (K0.out.trans (KeptM.of (S := S) B1 H0.out.lt))
        have e3 := Lib.hid ((B1.cell (p := ⟨p, 3, none⟩) H0.out.p_lt.1).trans d3)
        clear B1
        go_wp2_with (at_builtin; refine wpList_app_u8 rfl _ _ rfl _ n pb rfl HN.out O1.out ⟨W.heap.size, 0, none⟩ b rfl (hbx.out W) ?g4 ?_)
        case g4 => omega
        intro ad5 c5 w5 o5 g5 p5
        have HF := Lib.hid (InS.putB H1.out e3.out (L := pb ++ [b]) o5 g5 (fun k h => (p5 k h).imp id (fun h => by simpa using h)))
        have HB := Lib.hid HF.out.1
        have KB := Lib.hid (K1.out.trans HF.out.2)
        obtain ⟨bv', kv', z1, z2, _⟩ := H1.out.ex
        have y3 := cell_of_row _ _ 3 _ _ _ z1
        rw [e3.out] at y3
        obtain rfl : bv' = .slice pa n pc := by simpa [inC] using y3.symm
        have z5 := (g5.block p H1.out.p_lt.1 (fun e => own_ne_kind z2 z1 tIn_ne_u e.symm)).trans z1
        have yy := fun i => cell_of_row _ _ i _ _ _ z5
        have f0 := yy 0; have f2 := yy 2; have f3 := yy 3; have f4 := yy 4; have f5 := yy 5
        dsimp [inC] at f0 f2 f3 f4 f5
        have ff := fun i => frozen_of_row _ p i _ _ z5
        have ff2 := ff 2; have ff3 := ff 3; have ff4 := ff 4; have ff5 := ff 5
        have Z5 := Lib.hid z5
        clear z1 z2 z5 yy y3 ff o5 g5 p5 d0 d2 d3 d4 d5 e3 HF K1 K0
        have C1 := Lib.hid (HB.out.setC 4 (.int .i64 ((ct : Int) + 1)) ⟨M, wait, pas, pb ++ [b], ct + 1, mt⟩ (fun _ => rfl) rfl)
        have C2 := Lib.hid (C1.out.1.setC 5 (.int .i64 (0)) ⟨M, wait, pas, pb ++ [b], ct + 1, 0⟩ (fun _ => rfl) rfl)
        go_wp2
        refine bodyPost_ret (results_none rfl _ _ _) rfl ?_
        exact ⟨rfl, C2.out.1, (KB.out.trans C1.out.2).trans C2.out.2⟩
  · have eB : ipB ⟨M, wait, pas, pb, ct, mt⟩ b = pb := by unfold ipB; rw [if_neg (by dsimp only; rw [HN.out]; exact hA)]
    by_cases hxy : x = y
    · have em : ipM mt b = mt + 1 := by unfold ipM; rw [if_pos (hpeq.2 hxy)]
      subst hxy
      by_cases h6 : mt + 1 < 6
      · have e : ipR ⟨M, wait, pas, pb, ct, mt⟩ b = (⟨M, wait, pas, pb, ct + 1, mt + 1⟩, []) := by unfold ipR; dsimp only; rw [em, if_pos h6, eB]
        rw [e, List.append_nil]
        have h6i : (mt : Int) + 1 < 6 := by omega
        clear h hct hK hpeq hb27 hlt hx hy e em eB TL
        go_enter Tryd.func195, Tryd.ntmps195
        go_upto_region 1 with fail
        have ws6 := WS6.out
        go_quiet (fail)
        clear ws6
        have B0 : Below w.heap.size w (w.drewN nq) := ⟨rfl, rfl, rfl, Nat.le_refl _, fun _ _ => rfl⟩
        obtain ⟨W, hW⟩ : ∃ W, w.drewN nq = W := ⟨_, rfl⟩
        rw [hW] at B0 ⊢
        have H0 := Lib.hid (H.out.below B0)
        have K0 := Lib.hid (KeptM.of (S := S) B0 H.out.lt)
        have d0 := (B0.cell (p := ⟨p, 0, none⟩) H.out.p_lt.1).trans c0
        have d2 := (B0.cell (p := ⟨p, 2, none⟩) H.out.p_lt.1).trans c2
        have d3 := (B0.cell (p := ⟨p, 3, none⟩) H.out.p_lt.1).trans c3
        have d4 := (B0.cell (p := ⟨p, 4, none⟩) H.out.p_lt.1).trans c4
        have d5 := (B0.cell (p := ⟨p, 5, none⟩) H.out.p_lt.1).trans c5
        have O0 := Lib.hid (hO.below B0)
        clear hW B0 c0 c2 c3 c4 c5 fz hO
        have HB := H0
        have KB := K0
        obtain ⟨bv', kv', z1, z2, _⟩ := H0.out.ex
        have y3 := cell_of_row _ _ 3 _ _ _ z1
        rw [d3] at y3
        obtain rfl : bv' = .slice pa n pc := by simpa [inC] using y3.symm
        have Z5 := Lib.hid z1
        clear z1 z2 y3
        have ff := fun i => frozen_of_row _ p i _ _ Z5.out
        have ff2 := ff 2; have ff3 := ff 3; have ff4 := ff 4; have ff5 := ff 5
        clear ff
        have C1 := Lib.hid (HB.out.setC 4 (.int .i64 ((ct : Int) + 1)) ⟨M, wait, pas, pb, ct + 1, mt⟩ (fun _ => rfl) rfl)
        have C2 := Lib.hid (C1.out.1.setC 5 (.int .i64 ((mt : Int) + 1)) ⟨M, wait, pas, pb, ct + 1, mt + 1⟩ (fun _ => rfl) rfl)
        go_wp2
        refine bodyPost_ret (results_none rfl _ _ _) rfl ?_
        exact ⟨rfl, C2.out.1, (KB.out.trans C1.out.2).trans C2.out.2⟩
      · obtain rfl : mt = 5 := by omega
        obtain ⟨d, hd⟩ : ∃ d : Int, (ct : Int) + 1 - 6 = d := ⟨_, rfl⟩
        have hd0 : 0 ≤ d := by have := hct.1; omega
        have e : ipR ⟨M, wait, pas, pb, ct, 5⟩ b = (⟨M, wait, false, [], 0, 0⟩, [(15, 0, mkL ((pb).take (min d M).toNat), decide (min d M < d))]) := by unfold ipR; dsimp only; rw [em, if_neg h6, eB, hd]
        rw [e]
        have hne : pb ≠ [] := by
          intro e0
          have := congrArg List.length e0
          rw [HN.out] at this; simp at this; omega
        have hpl : (pb).length = n := by exact HN.out
        have hk1 : min d M ≤ (((pb).length : Nat) : Int) := by rw [hpl]; have := HPB.out; omega
        have hk0 : 0 ≤ min d M := by omega
        have ix5 : ∀ w, (Instr.index 9 (.string ⟨#[27, 91, 50, 48, 49, 126]⟩) (.int .i64 5)).run Tryd.prog w = .ok (.int .u8 x) w := ix
        clear h hct hK hpeq hb27 hlt hx hy e em eB h6
        go_enter Tryd.func195, Tryd.ntmps195
        go_upto_region 1 with fail
        have ws6 := WS6.out
        go_quiet (fail)
        clear ws6
        have B0 : Below w.heap.size w (w.drewN nq) := ⟨rfl, rfl, rfl, Nat.le_refl _, fun _ _ => rfl⟩
        obtain ⟨W, hW⟩ : ∃ W, w.drewN nq = W := ⟨_, rfl⟩
        rw [hW] at B0 ⊢
        have H0 := Lib.hid (H.out.below B0)
        have K0 := Lib.hid (KeptM.of (S := S) B0 H.out.lt)
        have d0 := (B0.cell (p := ⟨p, 0, none⟩) H.out.p_lt.1).trans c0
        have d2 := (B0.cell (p := ⟨p, 2, none⟩) H.out.p_lt.1).trans c2
        have d3 := (B0.cell (p := ⟨p, 3, none⟩) H.out.p_lt.1).trans c3
        have d4 := (B0.cell (p := ⟨p, 4, none⟩) H.out.p_lt.1).trans c4
        have d5 := (B0.cell (p := ⟨p, 5, none⟩) H.out.p_lt.1).trans c5
        have O0 := Lib.hid (hO.below B0)
        clear hW B0 c0 c2 c3 c4 c5 fz hO
        have HB := H0
        have KB := K0
        obtain ⟨bv', kv', z1, z2, _⟩ := H0.out.ex
        have y3 := cell_of_row _ _ 3 _ _ _ z1
        rw [d3] at y3
        obtain rfl : bv' = .slice pa n pc := by simpa [inC] using y3.symm
        have Z5 := Lib.hid z1
        clear z1 z2 y3
        have ff := fun i => frozen_of_row _ p i _ _ Z5.out
        have ff2 := ff 2; have ff3 := ff 3; have ff4 := ff 4; have ff5 := ff 5
        clear ff
        have C1 := Lib.hid (HB.out.setC 4 (.int .i64 ((ct : Int) + 1)) ⟨M, wait, pas, pb, ct + 1, 5⟩ (fun _ => rfl) rfl)
        have C2 := Lib.hid (C1.out.1.setC 5 (.int .i64 (6)) ⟨M, wait, pas, pb, ct + 1, 6⟩ (fun _ => rfl) rfl)
        have zC := blk_set (blk_set Z5.out 4 (.int .i64 ((ct : Int) + 1))) 5 (.int .i64 6)
        obtain ⟨bv2, kv2, y1, y2, _⟩ := C2.out.1.ex
        have y3 := cell_of_row _ _ 3 _ _ _ y1
        rw [cell_of_row _ _ 3 _ _ _ zC] at y3
        obtain rfl : bv2 = .slice pa n pc := by simpa [inC] using y3.symm
        dsimp only at y2
        obtain ⟨g, c6, e6, hle6, hcv6⟩ := conv_ownU y2 hne
        obtain ⟨rfl, -, rfl⟩ := Value.slice.inj e6
        rw [hpl] at hle6
        have hkl : (min d M).toNat ≤ (pb).length := by omega
        have hcv7 := hcv6 (min d M).toNat hkl
        have hkc : (min d M).toNat ≤ pc := by omega
        have hki : min d M ≤ (pc : Int) := by omega
        have TL6 := Lib.hid (fun w h => TL.out ⟨M, wait, pas, pb, ct + 1, 6⟩ w (15, 0, mkL ((pb).take (min d M).toNat), decide (min d M < d)) h)
        clear TL y1 y2 y3 zC hcv6 e6 hk1 Z5 hpl hkl hne ix
        go_wp2_with (go_at_call 194; refine (TL6.out _ C2.out.1).mono ?_; rintro e w7 ⟨rfl, h7, k7⟩; have H7 := Lib.hid h7; have K7 := Lib.hid k7; obtain ⟨_, _, _, _, _, _, _, _, gg⟩ := h7.cells; have g2 := gg 2; have g3 := gg 3; have g4 := gg 4; have g5 := gg 5; have X7 := Lib.hid (h7.setP false); clear h7 k7 gg)
        refine bodyPost_end (results_none rfl _ _ _) rfl ?_
        exact ⟨rfl, X7.out.1, (((KB.out.trans C1.out.2).trans C2.out.2).trans K7.out).trans X7.out.2⟩
    · have hxe : (x == y) = false := by simp [hxy]
      by_cases h27 : x = 27
      · have em : ipM mt b = 1 := by unfold ipM; rw [if_neg (fun h => hxy (hpeq.1 h)), if_pos (hb27.2 h27)]
        have e : ipR ⟨M, wait, pas, pb, ct, mt⟩ b = (⟨M, wait, pas, pb, ct + 1, 1⟩, []) := by unfold ipR; dsimp only; rw [em, if_pos (by decide), eB]
        rw [e, List.append_nil]
        have h27' : (x == ((({ data := #[27, 91, 50, 48, 49, 126] } : ByteArray)[0]'(by decide)).toNat : Int)) = true := by rw [h27]; rfl
        clear h hct hK hpeq hb27 hlt hx hy e em eB TL h27 hxy
        go_enter Tryd.func195, Tryd.ntmps195
        go_upto_region 1 with fail
        have ws6 := WS6.out
        go_quiet (fail)
        clear ws6
        have B0 : Below w.heap.size w (w.drewN nq) := ⟨rfl, rfl, rfl, Nat.le_refl _, fun _ _ => rfl⟩
        obtain ⟨W, hW⟩ : ∃ W, w.drewN nq = W := ⟨_, rfl⟩
        rw [hW] at B0 ⊢
        have H0 := Lib.hid (H.out.below B0)
        have K0 := Lib.hid (KeptM.of (S := S) B0 H.out.lt)
        have d0 := (B0.cell (p := ⟨p, 0, none⟩) H.out.p_lt.1).trans c0
        have d2 := (B0.cell (p := ⟨p, 2, none⟩) H.out.p_lt.1).trans c2
        have d3 := (B0.cell (p := ⟨p, 3, none⟩) H.out.p_lt.1).trans c3
        have d4 := (B0.cell (p := ⟨p, 4, none⟩) H.out.p_lt.1).trans c4
        have d5 := (B0.cell (p := ⟨p, 5, none⟩) H.out.p_lt.1).trans c5
        have O0 := Lib.hid (hO.below B0)
        clear hW B0 c0 c2 c3 c4 c5 fz hO
        have HB := H0
        have KB := K0
        obtain ⟨bv', kv', z1, z2, _⟩ := H0.out.ex
        have y3 := cell_of_row _ _ 3 _ _ _ z1
        rw [d3] at y3
        obtain rfl : bv' = .slice pa n pc := by simpa [inC] using y3.symm
        have Z5 := Lib.hid z1
        clear z1 z2 y3
        have ff := fun i => frozen_of_row _ p i _ _ Z5.out
        have ff2 := ff 2; have ff3 := ff 3; have ff4 := ff 4; have ff5 := ff 5
        clear ff
        have C1 := Lib.hid (HB.out.setC 4 (.int .i64 ((ct : Int) + 1)) ⟨M, wait, pas, pb, ct + 1, mt⟩ (fun _ => rfl) rfl)
        have C2 := Lib.hid (C1.out.1.setC 5 (.int .i64 (1)) ⟨M, wait, pas, pb, ct + 1, 1⟩ (fun _ => rfl) rfl)
        go_wp2
        refine bodyPost_ret (results_none rfl _ _ _) rfl ?_
        exact ⟨rfl, C2.out.1, (KB.out.trans C1.out.2).trans C2.out.2⟩
      · have em : ipM mt b = 0 := by unfold ipM; rw [if_neg (fun h => hxy (hpeq.1 h)), if_neg (fun h => h27 (hb27.1 h))]
        have e : ipR ⟨M, wait, pas, pb, ct, mt⟩ b = (⟨M, wait, pas, pb, ct + 1, 0⟩, []) := by unfold ipR; dsimp only; rw [em, if_pos (by decide), eB]
        rw [e, List.append_nil]
        have h27'' : (x == 27) = false := by simp [h27]
        have h27' : (x == ((({ data := #[27, 91, 50, 48, 49, 126] } : ByteArray)[0]'(by decide)).toNat : Int)) = false := h27''
        clear h hct hK hpeq hb27 hlt hx hy e em eB TL h27 hxy
        go_enter Tryd.func195, Tryd.ntmps195
        go_upto_region 1 with fail
        have ws6 := WS6.out
        go_quiet (fail)
        clear ws6
        have B0 : Below w.heap.size w (w.drewN nq) := ⟨rfl, rfl, rfl, Nat.le_refl _, fun _ _ => rfl⟩
        obtain ⟨W, hW⟩ : ∃ W, w.drewN nq = W := ⟨_, rfl⟩
        rw [hW] at B0 ⊢
        have H0 := Lib.hid (H.out.below B0)
        have K0 := Lib.hid (KeptM.of (S := S) B0 H.out.lt)
        have d0 := (B0.cell (p := ⟨p, 0, none⟩) H.out.p_lt.1).trans c0
        have d2 := (B0.cell (p := ⟨p, 2, none⟩) H.out.p_lt.1).trans c2
        have d3 := (B0.cell (p := ⟨p, 3, none⟩) H.out.p_lt.1).trans c3
        have d4 := (B0.cell (p := ⟨p, 4, none⟩) H.out.p_lt.1).trans c4
        have d5 := (B0.cell (p := ⟨p, 5, none⟩) H.out.p_lt.1).trans c5
        have O0 := Lib.hid (hO.below B0)
        clear hW B0 c0 c2 c3 c4 c5 fz hO
        have HB := H0
        have KB := K0
        obtain ⟨bv', kv', z1, z2, _⟩ := H0.out.ex
        have y3 := cell_of_row _ _ 3 _ _ _ z1
        rw [d3] at y3
        obtain rfl : bv' = .slice pa n pc := by simpa [inC] using y3.symm
        have Z5 := Lib.hid z1
        clear z1 z2 y3
        have ff := fun i => frozen_of_row _ p i _ _ Z5.out
        have ff2 := ff 2; have ff3 := ff 3; have ff4 := ff 4; have ff5 := ff 5
        clear ff
        have C1 := Lib.hid (HB.out.setC 4 (.int .i64 ((ct : Int) + 1)) ⟨M, wait, pas, pb, ct + 1, mt⟩ (fun _ => rfl) rfl)
        have C2 := Lib.hid (C1.out.1.setC 5 (.int .i64 (0)) ⟨M, wait, pas, pb, ct + 1, 0⟩ (fun _ => rfl) rfl)
        go_wp2
        refine bodyPost_ret (results_none rfl _ _ _) rfl ?_
        exact ⟨rfl, C2.out.1, (KB.out.trans C1.out.2).trans C2.out.2⟩
end
end Go.Proofs.YtangpdaoacjinaaDoor
set_option linter.unusedVariables false
set_option linter.unusedSimpArgs false
namespace Go.Proofs.YtangpdaoacjinaaDoor
open Go.RowKit
/-- An item: the object and the keys. -/
def itR (s : IS) (x : Bool × UInt8) : IS × List Ky :=
  if s.pas = true then (if x.1 = true then (s, []) else ipR s x.2) else if x.1 = true then ({ s with wait := [] }, stK s.wait) else tkR s x.2
/-- Items, one after another. -/
def doR (s : IS) : List (Bool × UInt8) → IS × List Ky
  | [] => (s, [])
  | x :: l => ((doR (itR s x).1 l).1, (itR s x).2 ++ (doR (itR s x).1 l).2)
theorem doR_snoc (s : IS) (l : List (Bool × UInt8)) (x : Bool × UInt8) : doR s (l ++ [x]) = ((itR (doR s l).1 x).1, (doR s l).2 ++ (itR (doR s l).1 x).2) := by
  induction l generalizing s with
  | nil => simp [doR]
  | cons y l ih => rw [List.cons_append, doR, ih, doR]; simp
/-- An object as it may be, N bytes of a paste behind. -/
structure GS (N : Nat) (s : IS) : Prop where
  m : 1 ≤ s.most ∧ s.most ≤ 65536
  w : s.wait = [] ∨ WOk s.wait
  p : s.pas = true → s.wait = [] ∧ s.mt < 6 ∧ s.mt ≤ s.ct ∧ s.ct ≤ N ∧ (s.pb.length : Int) = min (s.ct : Int) (s.most + 6)
theorem sizeB_four (n : Nat) : sizeB n ≤ 4 := by
  unfold sizeB
  repeat' split
  all_goals omega
theorem pB_len {l : List UInt8} (h : pB (mkL l) = true) : l.length ≤ 3 := by
  unfold pB at h
  rw [Bool.and_eq_true] at h
  have h2 := ((partB_iff _).1 h.2).2
  have h3 := sizeB_four ((mkL l).get! 0).toNat
  rw [mkL_size] at h2
  omega
theorem u8_eq {b : UInt8} {n : Nat} (h : b.toNat = n) (hn : n < 256) : b = UInt8.ofNat n := UInt8.toNat_inj.1 (by rw [h]; show n = n % 256; omega)
theorem fr_ok (b : UInt8) : frW b = [] ∨ WOk (frW b) := by
  unfold frW
  split
  · rename_i h
    refine Or.inr (Or.inr (Or.inr (Or.inr ⟨by simp, fun e => ?_, by simp⟩)))
    have e' : b = 27 := e
    rw [e'] at h
    exact absurd h.1 (by decide)
  · exact Or.inl rfl
theorem be_ok (b : UInt8) : (beS b).1 = [] ∨ WOk (beS b).1 := by
  unfold beS
  split
  · rename_i h
    rcases h with h | h
    · obtain rfl : b = 91 := u8_eq h (by decide)
      exact Or.inr (Or.inr (Or.inr (Or.inl ⟨[], rfl, by simp⟩)))
    · obtain rfl : b = 79 := u8_eq h (by decide)
      exact Or.inr (Or.inr (Or.inl rfl))
  · split <;> exact Or.inl rfl
theorem bc_ok (g : List UInt8) (b : UInt8) (hg : g.length ≤ 4) : bcW g b = [] ∨ WOk (bcW g b) := by
  unfold bcW
  split
  · split
    · exact Or.inr (Or.inr (Or.inr (Or.inl ⟨g ++ [b], rfl, by rw [List.length_append, List.length_singleton]; omega⟩)))
    · exact Or.inr (Or.inr (Or.inr (Or.inl ⟨g, rfl, hg⟩)))
  · exact Or.inl rfl
theorem bu_ok (l : List UInt8) (b : UInt8) (h0 : l ≠ []) (h1 : l.getD 0 0 ≠ 27) : buW l b = [] ∨ WOk (buW l b) := by
  unfold buW
  split
  · rename_i h
    refine Or.inr (Or.inr (Or.inr (Or.inr ⟨by simp, ?_, pB_len h⟩)))
    cases l with
    | nil => exact absurd rfl h0
    | cons c l => exact h1
  · exact Or.inl rfl
theorem gs_wait {N : Nat} {s : IS} (h : GS N s) (hp : s.pas = false) {l : List UInt8} (hl : l = [] ∨ WOk l) : GS N { s with wait := l } :=
  ⟨h.m, hl, fun e => absurd e (by show ¬ s.pas = true; rw [hp]; decide)⟩
theorem gs_dn {N : Nat} {s : IS} (h : GS N s) (hp : s.pas = false) (g : List UInt8) (b : UInt8) (hw : s.wait = []) : GS N (dnS s g b) := by
  unfold dnS
  split
  · have hm := h.m
    exact ⟨h.m, h.w, fun _ => ⟨hw, by show (0 : Nat) < 6; decide, Nat.le_refl _, Nat.zero_le _, by show ((0 : Nat) : Int) = min ((0 : Nat) : Int) (s.most + 6); omega⟩⟩
  · exact h
theorem gs_bh {N : Nat} {s : IS} (h : GS N s) (hp : s.pas = false) (hW : WOk s.wait) (b : UInt8) : GS N (bhR s b).1 := by
  unfold bhR
  split
  · exact gs_wait h hp (be_ok b)
  split
  · exact gs_wait h hp (Or.inl rfl)
  split
  · rename_i n1 n2 h27
    have hg : (s.wait.drop 2).length ≤ 4 := by
      rcases hW with e | e | ⟨g, e, hg⟩ | ⟨_, e, _⟩
      · exact absurd e n1
      · exact absurd e n2
      · rw [e]; exact hg
      · exact absurd h27 e
    dsimp only
    unfold bcS
    split
    · exact gs_dn (gs_wait h hp (Or.inl rfl)) hp _ _ rfl
    · exact gs_wait h hp (bc_ok _ b hg)
  · rename_i n1 n2 n27
    have h0 : s.wait ≠ [] := by
      rcases hW with e | e | ⟨g, e, hg⟩ | ⟨e, _, _⟩
      · rw [e]; simp
      · rw [e]; simp
      · rw [e]; simp
      · exact e
    exact gs_wait h hp (bu_ok _ b h0 n27)
theorem gs_tk {N : Nat} {s : IS} (h : GS N s) (hp : s.pas = false) (b : UInt8) : GS N (tkR s b).1 := by
  unfold tkR
  split
  · exact gs_wait h hp (Or.inl rfl)
  split
  · exact gs_wait h hp (Or.inr (Or.inl rfl))
  split
  · exact gs_wait h hp (fr_ok b)
  rename_i hne
  split
  · exact gs_wait h hp (fr_ok b)
  · rcases h.w with e | e
    · exact absurd e hne
    · exact gs_bh h hp e b
theorem ipM_le {m : Nat} (h : m < 6) (b : UInt8) : ipM m b ≤ m + 1 := by
  unfold ipM
  split
  · exact Nat.le_refl _
  split <;> omega
theorem gs_ip {N : Nat} {s : IS} (h : GS N s) (hp : s.pas = true) (b : UInt8) : GS (N + 1) (ipR s b).1 := by
  obtain ⟨h1, h2, h3, h4, h5⟩ := h.p hp
  have hm := h.m
  unfold ipR
  split
  · rename_i h6
    have := ipM_le h2 b
    refine ⟨h.m, Or.inl h1, fun _ => ⟨h1, h6, by show ipM s.mt b ≤ s.ct + 1; omega, by show s.ct + 1 ≤ N + 1; omega, ?_⟩⟩
    show ((ipB s b).length : Int) = min ((s.ct + 1 : Nat) : Int) (s.most + 6)
    unfold ipB
    split
    · rw [List.length_append, List.length_singleton]; omega
    · omega
  · exact ⟨h.m, Or.inl h1, fun e => by cases e⟩
theorem GS.mono {N M : Nat} {s : IS} (h : GS N s) (hN : N ≤ M) : GS M s := ⟨h.m, h.w, fun e => by
  obtain ⟨h1, h2, h3, h4, h5⟩ := h.p e
  exact ⟨h1, h2, h3, by omega, h5⟩⟩
theorem gs_it {N : Nat} {s : IS} (h : GS N s) (x : Bool × UInt8) : GS (N + 1) (itR s x).1 := by
  unfold itR
  split
  · rename_i hp
    split
    · exact h.mono (by omega)
    · exact gs_ip h hp _
  · rename_i hp
    have hp' : s.pas = false := by simpa using hp
    split
    · exact (gs_wait h hp' (Or.inl rfl)).mono (by omega)
    · exact (gs_tk h hp' _).mono (by omega)
theorem gs_do {N : Nat} {s : IS} (h : GS N s) (l : List (Bool × UInt8)) : GS (N + l.length) (doR s l).1 := by
  induction l generalizing N s with
  | nil => exact h
  | cons x l ih =>
    have := ih (gs_it h x)
    exact this.mono (by rw [List.length_cons]; omega)
end Go.Proofs.YtangpdaoacjinaaDoor
set_option linter.unusedVariables false
set_option linter.unusedSimpArgs false
namespace Go.Proofs.YtangpdaoacjinaaDoor
open Go.RowKit
/-- An input lies at p; the blocks S are none of its own. -/
structure InO (S : Nat → Prop) (p : Nat) (s : IS) (w : World) : Prop where
  ex : ∃ bv, w.heap[p]? = some (.cells (inC s bv) 275 (0, 0)) ∧ OwU w bv s.pb ∧ ∀ k, S k → k < w.heap.size ∧ k ≠ p ∧ bv.ownBlock ≠ some k
/-- Items lie in memory, in blocks of S. -/
def ItemsIn (S : Nat → Prop) (w : World) (a : Option Addr) (l : List (Bool × UInt8)) : Prop :=
  ∀ i, i < l.length → ∃ b off, a = some ⟨b, off, none⟩ ∧ S b ∧ w.cell? ⟨b, off + i * 2, none⟩ = some (.bool (l.getD i (false, 0)).1) ∧ w.cell? ⟨b, off + i * 2 + 1, none⟩ = some (.int .u8 ((l.getD i (false, 0)).2.toNat : Int))
theorem cellb_in {w w' : World} {b : Nat} (h : w'.heap[b]? = w.heap[b]?) (i : Nat) : w'.cell? ⟨b, i, none⟩ = w.cell? ⟨b, i, none⟩ := by unfold World.cell?; rw [h]
theorem ItemsIn.kept {S : Nat → Prop} {w w' : World} {a : Option Addr} {l : List (Bool × UInt8)} (h : ItemsIn S w a l) (k : KeptM S w w') : ItemsIn S w' a l := fun i hi => by
  obtain ⟨b, off, e, hS, h1, h2⟩ := h i hi
  exact ⟨b, off, e, hS, (cellb_in (k.block b hS) _).trans h1, (cellb_in (k.block b hS) _).trans h2⟩
section
variable {S : Nat → Prop} {p : Nat} {s : IS} {w w' : World}
theorem InO.enter (h : InO S p s w) : InS S p w.heap.size w.heap.size s [] (w.alloc (.cells #[.slice none 0 0] 223)) := by
  obtain ⟨bv, h1, h2, h3⟩ := h.ex
  have hb := below_alloc w (.cells #[.slice none 0 0] 223)
  refine ⟨⟨bv, .slice none 0 0, blk_below h1 hb, h2.below hb, heap_alloc_new _ _, owk_nil _ _, fun k hk => ?_⟩, hb.size⟩
  obtain ⟨k1, k2, k3⟩ := h3 k hk
  exact ⟨Nat.lt_of_lt_of_le k1 hb.size, k2, Nat.ne_of_lt k1, k3, by simp [Value.ownBlock]⟩
theorem InS.leave {q B : Nat} {K : List Ky} (h : InS S p q B s K w) : ∃ v, w.cell? ⟨q, 0, none⟩ = some v ∧ OwK w B v K ∧ InO (fun k => S k ∨ v.ownBlock = some k) p s w := by
  obtain ⟨bv, kv, h1, h2, h3, h4, h5⟩ := h.ex
  refine ⟨kv, by rw [cell_of_row _ _ _ _ _ _ h3]; rfl, h4, ⟨bv, h1, h2, fun k hk => ?_⟩⟩
  rcases hk with hk | hk
  · have := h5 k hk; exact ⟨this.1, this.2.1, this.2.2.2.1⟩
  · refine ⟨(h4.lt k hk).2, fun e => own_ne_kind h4 h1 tIn_ne_k (by rw [hk, e]), fun e => ?_⟩
    rcases own_ne_own h2 h4 tu_ne_k with e2 | e2
    · rw [e2] at e; cases e
    · exact e2 (by rw [e, hk])
theorem ipK_len (s : IS) (b : UInt8) : (ipR s b).2.length ≤ 10 := by
  unfold ipR; split <;> simp
theorem frK_len (b : UInt8) : (frK b).length ≤ 1 := by
  unfold frK; repeat' split
  all_goals simp
theorem tkK_len (s : IS) (b : UInt8) (h : s.wait.length ≤ 9) : (tkR s b).2.length ≤ 10 := by
  have h1 := stK_len h; have h2 := bhK_len s b h; have h3 := frK_len b
  unfold tkR
  repeat' split
  all_goals (dsimp only; try rw [List.length_append])
  all_goals (try simp only [List.length_singleton])
  all_goals omega
theorem GS.w9 {N : Nat} (h : GS N s) : s.wait.length ≤ 9 := by
  rcases h.w with h | h | h | ⟨g, h, hg⟩ | ⟨_, _, h⟩
  · rw [h]; simp
  · rw [h]; simp
  · rw [h]; simp
  · rw [h]; simp; omega
  · omega
theorem itK_len {N : Nat} (h : GS N s) (x : Bool × UInt8) : (itR s x).2.length ≤ 10 := by
  have h1 := stK_len h.w9
  unfold itR
  split
  · split
    · simp
    · exact ipK_len _ _
  · split
    · dsimp only; omega
    · exact tkK_len _ _ h.w9
theorem doK_len {N : Nat} (h : GS N s) (l : List (Bool × UInt8)) : (doR s l).2.length ≤ 10 * l.length := by
  induction l generalizing N s with
  | nil => simp [doR]
  | cons x l ih =>
    have h1 := ih (gs_it h x)
    have h2 := itK_len h x
    unfold doR
    rw [List.length_append, List.length_cons]; omega
set_option maxHeartbeats 8000000 in
theorem do_any {N : Nat} (l : List (Bool × UInt8)) (a : Option Addr) (n c : Nat) (h : InO S p s w) (hU : US S w) (hI : ItemsIn S w a l) (hn : l.length = n) (hl : n ≤ 9800) (hG : GS N s) (hN : N + n ≤ 100000) :
    Calls Tryd.prog 144 #[.pointer (some ⟨p, 0, none⟩), .slice a n c] w fun e w' => ∃ v, e = .returned v ∧ OwK w' w.heap.size v (doR s l).2 ∧ InO (fun k => S k ∨ v.ownBlock = some k) p (doR s l).1 w' ∧ KeptM S w w' := by
  have hmf : ∀ (fn : Fn) (first cap : Array Value) (w : World), (Instr.makeFunc fn first cap).run Tryd.prog w = .ok (.func fn first cap) w := fun _ _ _ _ => rfl
  have H1 := Lib.hid h.enter
  have hSl : ∀ k, S k → k < w.heap.size := fun k hk => by obtain ⟨_, _, _, h3⟩ := h.ex; exact (h3 k hk).1
  have K1 := Lib.hid (KeptM.of (S := S) (below_alloc w (.cells #[.slice none 0 0] 223)) hSl)
  have HI := Lib.hid hI
  have HU := Lib.hid hU
  have HN := Lib.hid hn
  have HG := Lib.hid hG
  obtain ⟨q, hq⟩ : ∃ q, w.heap.size = q := ⟨_, rfl⟩
  obtain ⟨W, hW⟩ : ∃ W, w.alloc (.cells #[.slice none 0 0] 223) = W := ⟨_, rfl⟩
  rw [hW, hq] at H1
  rw [hW] at K1
  rw [hq]
  clear h hU hI hn hG hSl
  go_enter Tryd.func144, Tryd.ntmps144
  go_upto_region 6 with fail
  clear hW hq hmf
  go_loopw [14] (fun iv wr => ∃ (k : Nat), k ≤ n ∧ iv = .int .i64 (k : Int) ∧ Hid (InS S p q q (doR s (l.take k)).1 (doR s (l.take k)).2 wr) ∧ Hid (KeptM S w wr)) (fun iv _ => n - (intOf iv).toNat)
  case atStart => exact ⟨0, Nat.zero_le _, rfl, H1, K1⟩
  case round =>
    clear H1 K1
    obtain ⟨k, hk, rfl, HS, HR⟩ := hrel
    by_cases hlt : k < n
    · have hkl : k < l.length := by rw [HN.out]; exact hlt
      obtain ⟨b, off, rfl, hSb, i0, i1⟩ := (HI.out.kept HR.out) k hkl
      have hblt : b < wr.heap.size := HS.out.lt b hSb
      have hk1 : (k : Int) < n := by omega
      have hk0 : (0 : Int) ≤ k := by omega
      have hsn := doR_snoc s (l.take k) (l.getD k (false, 0))
      have htk : l.take k ++ [l.getD k (false, 0)] = l.take (k + 1) := by
        rw [List.take_succ_eq_append_getElem hkl, List.getD, List.getElem?_eq_getElem hkl]; rfl
      rw [htk] at hsn
      have hg1 := (gs_do HG.out (l.take k)).mono (M := 100000) (by rw [List.length_take]; omega)
      have hlen := doK_len HG.out (l.take k)
      have hlen8 : (doR s (l.take k)).2.length ≤ 98800 := by rw [List.length_take] at hlen; omega
      have HU2 := Lib.hid (HU.out.kept HR.out)
      have HSN := Lib.hid hsn
      clear hsn htk hlen hkl
      generalize l.getD k (false, 0) = x at *
      generalize doR s (l.take k) = r at *
      obtain ⟨t, u⟩ := x
      obtain ⟨s1, ks⟩ := r
      dsimp only at i0 i1 hg1 hlen8 HS HSN
      have hu : u.toNat < 256 := u.toNat_lt
      obtain ⟨_, _, _, _, p2, _, _, _, _⟩ := HS.out.cells
      have HG1 := Lib.hid hg1
      have B2 := below_alloc wr (.cells #[.bool t, .int .u8 (u.toNat : Int)] 215)
      have H2 := Lib.hid (HS.out.below B2)
      have K2 := Lib.hid (HR.out.trans (KeptM.of B2 HS.out.lt))
      have z2 := (B2.cell (p := ⟨p, 2, none⟩) HS.out.p_lt.1).trans p2
      have U2 := Lib.hid (HU.out.kept K2.out)
      clear p2 B2 HU2
      cases hp : s1.pas
      · rw [hp] at z2
        cases t
        · have e : itR s1 (false, u) = tkR s1 u := by unfold itR; rw [if_neg (by rw [hp]; decide)]; rfl
          rw [e] at HSN
          have CL := Lib.hid (take_any u H2.out U2.out hg1.w hlen8)
          clear e hg1 hp
          generalize u.toNat = y at *
          go_wp2_with (go_at_call 197; refine CL.out.mono ?_; rintro e w3 ⟨rfl, h3, k3⟩; have H3 := Lib.hid h3; have K3 := Lib.hid (K2.out.trans k3); clear h3 k3)
          go_roundw
          case rel => exact ⟨k + 1, by omega, by go_num, Lib.hid (by rw [HSN.out]; exact H3.out), K3⟩
          case measure => (simp [intOf]; try omega)
        · have e : itR s1 (true, u) = ({ s1 with wait := [] }, stK s1.wait) := by unfold itR; rw [if_neg (by rw [hp]; decide)]; rfl
          rw [e] at HSN
          have CL := Lib.hid (settle_any H2.out U2.out hg1.w9 (by omega))
          clear e hg1 hp
          generalize u.toNat = y at *
          go_wp2_with (go_at_call 196; refine CL.out.mono ?_; rintro e w3 ⟨rfl, h3, k3⟩; have H3 := Lib.hid h3; have K3 := Lib.hid (K2.out.trans k3); clear h3 k3)
          go_roundw
          case rel => exact ⟨k + 1, by omega, by go_num, Lib.hid (by rw [HSN.out]; exact H3.out), K3⟩
          case measure => (simp [intOf]; try omega)
      · rw [hp] at z2
        cases t
        · have e : itR s1 (false, u) = ipR s1 u := by unfold itR; rw [if_pos hp]; rfl
          rw [e] at HSN
          obtain ⟨g1, g2, g3, g4, g5⟩ := hg1.p hp
          have CL := Lib.hid (inpaste_any u H2.out hg1.m g2 ⟨g3, g4⟩ g5 (by omega))
          clear e hg1 hp g1 g2 g3 g4 g5
          generalize u.toNat = y at *
          go_wp2_with (go_at_call 195; refine CL.out.mono ?_; rintro e w3 ⟨rfl, h3, k3⟩; have H3 := Lib.hid h3; have K3 := Lib.hid (K2.out.trans k3); clear h3 k3)
          go_roundw
          case rel => exact ⟨k + 1, by omega, by go_num, Lib.hid (by rw [HSN.out]; exact H3.out), K3⟩
          case measure => (simp [intOf]; try omega)
        · have e : itR s1 (true, u) = (s1, []) := by unfold itR; rw [if_pos hp]; rfl
          rw [e, List.append_nil] at HSN
          clear e hg1 hp
          generalize u.toNat = y at *
          go_wp2
          go_roundw
          case rel => exact ⟨k + 1, by omega, by go_num, Lib.hid (by rw [HSN.out]; exact H2.out), K2⟩
          case measure => (simp [intOf]; try omega)
    · obtain rfl : k = n := by omega
      have hkl : ¬ (k : Int) < (k : Int) := by omega
      obtain ⟨v, hv, ho, hO⟩ := HS.out.leave
      rw [← HN.out, List.take_length] at ho hO
      have HO := Lib.hid (And.intro ho hO)
      clear ho hO
      go_wp2
      go_ret
      exact ⟨v, rfl, HO.out.1, HO.out.2, HR.out⟩
end
end Go.Proofs.YtangpdaoacjinaaDoor
set_option linter.unusedVariables false
set_option linter.unusedSimpArgs false
namespace Go.Proofs.YtangpdaoacjinaaDoor
open Go.RowKit
abbrev It := Bool × UInt8
def itC (L : List It) : List Value := L.flatMap fun p => [Value.bool p.1, Value.int .u8 (p.2.toNat : Int)]
theorem itC_at (L : List It) : ∀ i, i < L.length → (itC L)[i * 2]? = some (.bool (L.getD i (false, 0)).1) ∧ (itC L)[i * 2 + 1]? = some (.int .u8 ((L.getD i (false, 0)).2.toNat : Int)) := by
  induction L with
  | nil => intro i hi; simp at hi
  | cons x L ih =>
    intro i hi
    cases i with
    | zero => exact ⟨rfl, rfl⟩
    | succ i =>
      have h := ih i (by simpa using hi)
      rw [show (i + 1) * 2 = i * 2 + 1 + 1 by omega]
      exact h
theorem itC_len (L : List It) : (itC L).length = L.length * 2 := by
  unfold itC
  induction L with
  | nil => rfl
  | cons x L ih => simp only [List.flatMap_cons, List.length_append, List.length_cons, List.length_nil, ih]; omega
theorem itC_app (a b : List It) : itC (a ++ b) = itC a ++ itC b := by simp [itC]
theorem itC_one (l : List It) : ∀ u ∈ itC l, u.oneCell' = true := by
  intro u hu
  unfold itC at hu
  rw [List.mem_flatMap] at hu
  obtain ⟨p, _, hp⟩ := hu
  simp at hp
  rcases hp with rfl | rfl <;> rfl
theorem itC_news {w : World} {ad : Addr} {l : List It} (h : ItsIn w (some ad) l) : ∀ j u, (itC l)[j]? = some u → w.cell? (ad.add j) = some u := by
  intro j u hj
  have hlen := itC_len l
  have hj2 : j < l.length * 2 := by
    rw [← hlen]
    exact (List.getElem?_eq_some_iff.1 hj).1
  obtain ⟨b, off, e, _, h1, h2⟩ := h (j / 2) (by omega)
  injection e with e
  subst e
  have hadd : (⟨b, off, none⟩ : Addr).add j = ⟨b, off + j, none⟩ := by unfold Addr.add; split <;> simp_all
  have hs := itC_at l (j / 2) (by omega)
  rw [hadd]
  have hm : j % 2 = 0 ∨ j % 2 = 1 := by omega
  rcases hm with hm | hm
  · have e : j / 2 * 2 = j := by omega
    rw [e] at hs h1
    rw [hs.1] at hj
    rw [h1]; exact hj
  · have e : j / 2 * 2 + 1 = j := by omega
    rw [e] at hs
    rw [show off + j / 2 * 2 + 1 = off + j by omega] at h2
    rw [hs.2] at hj
    rw [h2]; exact hj
/-- A row of items of the call's own. -/
def OwI (w : World) (B : Nat) (v : Value) (L : List It) : Prop := w.ownsRow B 215 2 v L.length (itC L)
theorem bytesItem : ∃ b, (Tryd.prog.info? 215).map (fun i => (i.zero, i.size, i.bytes)) = some (some (.agg #[.bool false, .int .u8 0]), 2, b) ∧ 1 ≤ b ∧ b ≤ 64 := ⟨2, by kernel_rfl, by decide, by decide⟩
theorem owi_nil (w : World) (B : Nat) : OwI w B (.slice none 0 0) [] := World.ownsRow_nil _ _ _ _
theorem OwI.at {w : World} {B : Nat} {v : Value} {L : List It} (h : OwI w B v L) : ∃ a c, v = .slice a L.length c ∧ (a = none → c = 0) ∧ ItsIn w a L ∧ ItemsIn (fun k => v.ownBlock = some k) w a L := by
  unfold OwI at h
  rcases h.2 with ⟨rfl, h0⟩ | ⟨g, cap, cur, rfl, hB, hg, hle, _⟩
  · exact ⟨none, 0, by rw [h0], fun _ => rfl, fun j hj => by omega, fun j hj => by omega⟩
  · have hc : ∀ j, j < L.length → w.cell? ⟨g, 0 + j * 2, none⟩ = some (.bool (L.getD j (false, 0)).1) ∧ w.cell? ⟨g, 0 + j * 2 + 1, none⟩ = some (.int .u8 ((L.getD j (false, 0)).2.toNat : Int)) := fun j hj => by
      have := itC_at L j hj
      refine ⟨?_, ?_⟩
      · rw [Nat.zero_add, h.cellAt (j * 2) (by omega)]; exact this.1
      · rw [Nat.zero_add, h.cellAt (j * 2 + 1) (by omega)]; exact this.2
    exact ⟨_, cap, rfl, fun e => (by cases e), fun j hj => ⟨g, 0, rfl, blk_lt hg, hc j hj⟩, fun j hj => ⟨g, 0, rfl, rfl, hc j hj⟩⟩
theorem OwI.form {w : World} {B : Nat} {v : Value} {L : List It} {n : Nat} (h : OwI w B v L) (hn : L.length = n) : ∃ a c, v = .slice a n c := by
  obtain ⟨a, c, e, _⟩ := h.at
  exact ⟨a, c, by rw [e, hn]⟩
theorem OwI.mono {w : World} {B B' : Nat} {v : Value} {L : List It} (h : OwI w B v L) (hB : B' ≤ B) : OwI w B' v L := World.ownsRow.mono h hB
theorem OwI.below {w w' : World} {B : Nat} {v : Value} {L : List It} (h : OwI w B v L) (hb : Below w.heap.size w w') : OwI w' B v L := by
  refine h.kept (row := none) ⟨hb.os, hb.tape, hb.output, hb.size, fun k hk _ => hb.block k hk⟩ ?_
  cases v.ownBlock <;> simp
theorem its_new1 (w : World) (t : Bool) (b : UInt8) : ItsIn (w.alloc (.cells #[.bool t, .int .u8 (b.toNat : Int)] 215)) (some ⟨w.heap.size, 0, none⟩) [(t, b)] := fun i hi => by
  have hi0 : i = 0 := by simpa using hi
  subst hi0
  have h := heap_alloc_new w (.cells #[.bool t, .int .u8 (b.toNat : Int)] 215)
  exact ⟨w.heap.size, 0, rfl, blk_lt h, by rw [cell_of_row _ _ _ _ _ _ h]; rfl, by rw [cell_of_row _ _ _ _ _ _ h]; rfl⟩
theorem its_newS (S : Nat → Prop) (w : World) (t : Bool) (b : UInt8) (hS : S w.heap.size) : ItemsIn S (w.alloc (.cells #[.bool t, .int .u8 (b.toNat : Int)] 215)) (some ⟨w.heap.size, 0, none⟩) [(t, b)] := fun i hi => by
  have hi0 : i = 0 := by simpa using hi
  subst hi0
  have h := heap_alloc_new w (.cells #[.bool t, .int .u8 (b.toNat : Int)] 215)
  exact ⟨w.heap.size, 0, rfl, hS, by rw [cell_of_row _ _ _ _ _ _ h]; rfl, by rw [cell_of_row _ _ _ _ _ _ h]; rfl⟩
theorem its_below {W w : World} {a : Option Addr} {l : List It} (h : ItsIn W a l) (hb : Below W.heap.size W w) : ItemsIn (fun k => k < W.heap.size) w a l := fun i hi => by
  obtain ⟨b, off, e, hlt, h1, h2⟩ := h i hi
  exact ⟨b, off, e, hlt, (hb.cell (p := ⟨b, off + i * 2, none⟩) hlt).trans h1, (hb.cell (p := ⟨b, off + i * 2 + 1, none⟩) hlt).trans h2⟩
/-- An append of items to a row of the call's own. -/
theorem step_app_items {w : World} {ops : Array Oper} {o : Oper} {a : Act} {K : Act → World → Prop} {Q : Exit → Act → World → Prop} {E : Prop} (hgd : Region.wanted o (yielded ops a.tmps) = true) (s x : Operand)
    (ho : o.op = .call { callee := .builtin .append, args := #[s, x], argTypes := #[151, 151] }) (base : Nat)
    (v : Value) (np : Nat) (p : List It) (hs : a.eval s = v) (hp : p.length = np) (hown : OwI w base v p) (ad : Addr) (n c : Nat) (l : List It) (hx : a.eval x = .slice (some ad) n c) (hl : l.length = n) (hsg : ItsIn w (some ad) l)
    (hlen : np + n ≤ 1000000) (hbase : base ≤ w.heap.size)
    (h : ∀ ad' c' w', OwI w' base (.slice ad' (np + n) c') (p ++ l) → w.grownBy w' v.ownBlock → (∀ k, (Value.slice ad' (np + n) c').ownBlock = some k → v.ownBlock = some k ∨ w.heap.size ≤ k) → K (a.put o.dst (.slice ad' (np + n) c')) w') :
    if Region.wanted o (yielded ops a.tmps) = true then Oper.wp Tryd.prog o a w K Q else E := by
  obtain ⟨bb, hbb, hb1, hb2⟩ := bytesItem
  obtain ⟨i0, hi, hz0, hz1, hz2⟩ := info_parts hbb
  subst hl; subst hp
  rw [if_pos hgd]
  have hfin : ∀ v' w', OwI w' base v' (p ++ l) → w.grownBy w' v.ownBlock → (∀ k, v'.ownBlock = some k → v.ownBlock = some k ∨ w.heap.size ≤ k) → K (a.put o.dst v') w' := by
    intro v' w' h1 h2 h3
    obtain ⟨ad', c', rfl⟩ := h1.form (n := p.length + l.length) (by rw [List.length_append])
    exact h ad' c' w' h1 h2 h3
  obtain ⟨v', w', hr, a1, a2, a3⟩ := run_append_place (P := Tryd.prog) w base 151 o.type 215 i0 _ 2 bb Tryd.underlying151 hi hz0 hz1 hz2 rfl (by decide) v p.length _ hown ad l.length c (itC l) (itC_len l) (itC_news hsg) (itC_one l) (by unfold maxLen; omega) (Nat.le_trans (Nat.mul_le_mul hlen hb2) (by decide)) hbase
  have h' := hfin v' w' (by unfold OwI; rw [List.length_append, itC_app]; exact a1) a2 a3
  unfold Oper.wp execOp
  simp only [ho, resolve, invoke, builtin, Sem.run_bind, Sem.run_pure, Result.andThen_ok, List.map_toArray, List.map_cons, List.map_nil, hs, hx, hr]
  exact h'
theorem wpList_app_items {w : World} {ops : Array Oper} {rest : List Oper} {o : Oper} {a : Act} {Q : Exit → Act → World → Prop} (hgd : Region.wanted o (yielded ops a.tmps) = true) (s x : Operand)
    (ho : o.op = .call { callee := .builtin .append, args := #[s, x], argTypes := #[151, 151] }) (base : Nat)
    (v : Value) (np : Nat) (p : List It) (hs : a.eval s = v) (hp : p.length = np) (hown : OwI w base v p) (ad : Addr) (n c : Nat) (l : List It) (hx : a.eval x = .slice (some ad) n c) (hl : l.length = n) (hsg : ItsIn w (some ad) l)
    (hlen : np + n ≤ 1000000) (hbase : base ≤ w.heap.size)
    (h : ∀ ad' c' w', OwI w' base (.slice ad' (np + n) c') (p ++ l) → w.grownBy w' v.ownBlock → (∀ k, (Value.slice ad' (np + n) c').ownBlock = some k → v.ownBlock = some k ∨ w.heap.size ≤ k) → wpList Tryd.prog ops Q rest (a.put o.dst (.slice ad' (np + n) c')) w') : wpList Tryd.prog ops Q (o :: rest) a w :=
  wpList_step fun K hK => step_app_items hgd s x ho base v np p hs hp hown ad n c l hx hl hsg hlen hbase (fun ad' c' w' h1 h2 h3 => hK _ _ (h ad' c' w' h1 h2 h3))
/-- The items of bytes. -/
def biL (l : List UInt8) : List It := l.map fun b => (false, b)
set_option maxHeartbeats 4000000 in
theorem rof_ref (P : List UInt8) (w : World) (hl : P.length ≤ 1000) :
    Calls Tryd.prog 94 #[.string (mkL P)] w fun e w' => ∃ v, e = .returned v ∧ OwI w' w.heap.size v (biL P) ∧ Below w.heap.size w w' := by
  obtain ⟨n, hn⟩ : ∃ n, P.length = n := ⟨_, rfl⟩
  have HZ : Hid ((mkL P).size = n) := Lib.hid (by rw [mkL_size, hn])
  have HN := Lib.hid hn
  have IX := Lib.hid (fun k (hk : k < n) wx => idx_run P k (by omega) wx)
  have hl' : Hid (n ≤ 1000) := Lib.hid (by omega)
  clear hn hl
  go_enter Tryd.func94, Tryd.ntmps94
  go_upto_region 3 with fail
  go_loopw [3, 4] (fun sv iv wr => ∃ (k : Nat), k ≤ n ∧ iv = .int .i64 (k : Int) ∧ Hid (OwI wr w.heap.size sv (biL (P.take k))) ∧ Hid (Below w.heap.size w wr)) (fun _ iv _ => n - (intOf iv).toNat)
  case atStart => exact ⟨0, Nat.zero_le _, rfl, Lib.hid (owi_nil _ _), Lib.hid (Below.refl _ _)⟩
  case round =>
    obtain ⟨k, hk, rfl, HO, HB⟩ := hrel
    have hkl : (biL (P.take k)).length = k := by unfold biL; rw [List.length_map, List.length_take, HN.out]; omega
    obtain ⟨ad, cp, rfl⟩ := HO.out.form hkl
    have HKL := Lib.hid hkl
    by_cases hlt : k < n
    · have hk1 : (k : Int) < ((mkL P).size : Int) := by rw [HZ.out]; omega
      have hix := IX.out k hlt
      have hk9 : k < 1000 := by have := hl'.out; omega
      have hkl2 : k < P.length := by rw [HN.out]; exact hlt
      have htk : Hid (biL (P.take k) ++ [(false, P.getD k 0)] = biL (P.take (k + 1))) := Lib.hid (by
        unfold biL
        rw [List.take_succ_eq_append_getElem hkl2, List.map_append, List.getD, List.getElem?_eq_getElem hkl2]; rfl)
      clear hkl hkl2
      generalize P.getD k 0 = b at *
      have B2 := below_alloc wr (.cells #[.bool false, .int .u8 (b.toNat : Int)] 215)
      have O2 := Lib.hid (HO.out.below B2)
      have S2 := Lib.hid (its_new1 wr false b)
      have N2 := Lib.hid (seqB HB.out B2)
      clear B2
      generalize b.toNat = x at *
      go_wp2_with (at_builtin; refine wpList_app_items rfl _ _ rfl w.heap.size _ k _ rfl HKL.out O2.out ⟨wr.heap.size, 0, none⟩ 1 1 [(false, b)] rfl rfl S2.out ?g3 ?g4 ?_)
      case g3 => omega
      case g4 => exact N2.out.size
      intro ad5 c5 w5 o5 g5 p5
      have N5 := Lib.hid (N2.out.grown g5 N2.out.size (fun k e => (O2.out.lt k e).1))
      rw [htk.out] at o5
      have O5 := Lib.hid o5
      clear o5 g5 p5
      go_wp2
      go_roundw
      case rel => exact ⟨k + 1, by omega, by go_num, O5, N5⟩
      case measure => (simp [intOf]; try omega)
    · have hk1 : ¬ ((k : Int) < ((mkL P).size : Int)) := by rw [HZ.out]; omega
      obtain rfl : k = n := by omega
      have HT : P.take k = P := by rw [← HN.out, List.take_length]
      rw [HT] at HO
      go_wp2
      go_ret
      exact ⟨_, rfl, HO.out, HB.out⟩
end Go.Proofs.YtangpdaoacjinaaDoor
set_option linter.unusedVariables false
set_option linter.unusedSimpArgs false
namespace Go.Proofs.YtangpdaoacjinaaDoor
open Go.RowKit
theorem wdB_cons (b : UInt8) : ∃ c r, wdB b = c :: r := by
  unfold wdB; split <;> exact ⟨_, _, rfl⟩
theorem wdL_app (a b : List UInt8) : wdL (a ++ b) = wdL a ++ b.flatMap wdB := by
  unfold wdL; rw [List.flatMap_append]; rfl
/-- A text whose word this is has been read so far. -/
def UwI (W p : List UInt8) (i : Nat) : Prop := ∀ s, wdL s = W → ∃ k, k ≤ s.length ∧ p = s.take k ∧ (wdL p).length = i
theorem uw_0 (W : List UInt8) : UwI W [] 1 := fun s h => ⟨0, Nat.zero_le _, rfl, rfl⟩
theorem uw_at {W p : List UInt8} {i : Nat} (h : UwI W p i) {s : List UInt8} (hs : wdL s = W) (hi : i < W.length) : ∃ x r, s = p ++ x :: r ∧ W.drop i = wdB x ++ r.flatMap wdB := by
  obtain ⟨k, hk, hp, hl⟩ := h s hs
  have hsp : s = p ++ s.drop k := by rw [hp, List.take_append_drop]
  cases hd : s.drop k with
  | nil =>
    rw [hd, List.append_nil] at hsp
    rw [← hs, hsp] at hi
    omega
  | cons x r =>
    rw [hd] at hsp
    refine ⟨x, r, hsp, ?_⟩
    rw [← hs, hsp, wdL_app, ← hl, List.drop_left, List.flatMap_cons]
theorem uw_push {W p : List UInt8} {i : Nat} (h : UwI W p i) {s : List UInt8} (hs : wdL s = W) {x : UInt8} {r : List UInt8} (e : s = p ++ x :: r) : ∃ k, k ≤ s.length ∧ p ++ [x] = s.take k ∧ (wdL (p ++ [x])).length = i + (wdB x).length := by
  obtain ⟨k, hk, hp, hl⟩ := h s hs
  refine ⟨p.length + 1, ?_, ?_, ?_⟩
  · rw [e, List.length_append, List.length_cons]; omega
  · rw [e, List.take_append]
    simp
    exact (List.take_of_length_le (by omega)).symm
  · rw [wdL_app, List.length_append, hl]; simp
theorem uw_plain {W p : List UInt8} {i : Nat} (h : UwI W p i) (hi : i < W.length) (hc : W.getD i 0 ≠ 92) : UwI W (p ++ [W.getD i 0]) (i + 1) := fun s hs => by
  obtain ⟨x, r, e, hd⟩ := uw_at h hs hi
  have hg : W.getD i 0 = (wdB x ++ r.flatMap wdB).getD 0 0 := by
    rw [← hd, List.getD, List.getD, List.getElem?_drop]; rfl
  by_cases hp : wdP x
  · have hB : wdB x = [x] := if_pos hp
    rw [hB] at hg
    have hx : W.getD i 0 = x := hg
    have := uw_push h hs e
    rw [hB] at this
    rw [hx]; exact this
  · have hB : wdB x = 92 :: hexN (x.toNat : Int) 2 := if_neg hp
    rw [hB] at hg
    exact absurd hg hc
/-- Where a backslash stands, two digits do. -/
theorem uw_hex {W p : List UInt8} {i : Nat} (h : UwI W p i) (hi : i < W.length) (hc : W.getD i 0 = 92) {s : List UInt8} (hs : wdL s = W) : ∃ x r, s = p ++ x :: r ∧ i + 2 < W.length ∧ (W.drop (i + 1)).take 2 = hexN (x.toNat : Int) 2 ∧ (wdB x).length = 3 := by
  obtain ⟨x, r, e, hd⟩ := uw_at h hs hi
  have hg : W.getD i 0 = (wdB x ++ r.flatMap wdB).getD 0 0 := by
    rw [← hd, List.getD, List.getD, List.getElem?_drop]; rfl
  have hp : ¬ wdP x := fun hp => by
    have hB : wdB x = [x] := if_pos hp
    rw [hB] at hg
    have hx : W.getD i 0 = x := hg
    rw [hc] at hx
    exact hp.2.2 (by rw [← hx]; rfl)
  have hB : wdB x = 92 :: hexN (x.toNat : Int) 2 := if_neg hp
  have h2 := (hex2 x).1
  have hlen := congrArg List.length hd
  rw [List.length_drop, List.length_append, hB, List.length_cons, h2] at hlen
  refine ⟨x, r, e, by omega, ?_, by rw [hB, List.length_cons, h2]⟩
  have : W.drop (i + 1) = (W.drop i).drop 1 := by rw [List.drop_drop]
  rw [this, hd, hB, List.cons_append, List.drop_succ_cons, List.drop_zero, List.take_append, h2]
  simp [List.take_of_length_le (Nat.le_of_eq h2)]
theorem uw_push3 {W p : List UInt8} {i : Nat} (h : UwI W p i) (hi : i < W.length) (hc : W.getD i 0 = 92) : UwI W (p ++ [(uhR ((W.drop (i + 1)).take 2)).toNat.toUInt8]) (i + 3) := fun s hs => by
  obtain ⟨x, r, e, _, hx, h3⟩ := uw_hex h hi hc hs
  have := uw_push h hs e
  rw [h3] at this
  rw [hx, (hex2 x).2.2.1]
  rw [show ((x.toNat : Int).toNat).toUInt8 = x from by simp]
  exact this
theorem uw_end {W p : List UInt8} {i : Nat} (h : UwI W p i) (hi : ¬ i < W.length) {s : List UInt8} (hs : wdL s = W) : s = p := by
  obtain ⟨k, hk, hp, hl⟩ := h s hs
  have hsp : s = p ++ s.drop k := by rw [hp, List.take_append_drop]
  cases hd : s.drop k with
  | nil => rw [hd, List.append_nil] at hsp; exact hsp
  | cons x r =>
    rw [hd] at hsp
    have hw : W = wdL p ++ (wdB x ++ r.flatMap wdB) := by rw [← hs, hsp, wdL_app, List.flatMap_cons]
    obtain ⟨c, q, hB⟩ := wdB_cons x
    rw [hB] at hw
    have := congrArg List.length hw
    rw [List.length_append, List.length_append, List.length_cons] at this
    omega
/-- A word is of one text. -/
theorem wdL_inj {a b : List UInt8} (h : wdL a = wdL b) : a = b := by
  induction a generalizing b with
  | nil =>
    cases b with
    | nil => rfl
    | cons y b =>
      obtain ⟨c, r, e⟩ := wdB_cons y
      unfold wdL at h
      rw [List.flatMap_cons, e] at h
      simp at h
  | cons x a ih =>
    have hu : UwI (wdL b) [] 1 := uw_0 _
    have hlt : 1 < (wdL b).length := by
      rw [← h]
      obtain ⟨c, r, e⟩ := wdB_cons x
      unfold wdL
      rw [List.flatMap_cons, e]; simp
    obtain ⟨y, r, e, hd⟩ := uw_at hu rfl hlt
    obtain ⟨z, q, e2, hd2⟩ := uw_at hu h hlt
    simp only [List.nil_append, List.cons.injEq] at e e2
    obtain ⟨rfl, rfl⟩ := e2
    by_cases hp : x = y
    · subst hp
      have h5 : a.flatMap wdB = r.flatMap wdB := List.append_cancel_left (hd2.symm.trans hd)
      have h6 : wdL a = wdL r := by unfold wdL; rw [h5]
      have := ih h6
      rw [e, this]
    · exfalso
      by_cases hc : (wdL b).getD 1 0 = 92
      · obtain ⟨u, _, eu, _, hx, _⟩ := uw_hex hu hlt hc rfl
        obtain ⟨v, _, ev, _, hy, _⟩ := uw_hex hu hlt hc h
        have h1 : (u.toNat : Int) = v.toNat := by rw [← (hex2 u).2.2.1, ← (hex2 v).2.2.1, ← hx, ← hy]
        rw [e] at eu
        simp only [List.nil_append, List.cons.injEq] at eu ev
        exact hp (by rw [ev.1, eu.1]; exact (UInt8.toNat_inj.1 (by omega)))
      · obtain ⟨k1, _, hp1, _⟩ := uw_plain hu hlt hc b rfl
        obtain ⟨k2, _, hp2, _⟩ := uw_plain hu hlt hc _ h
        rw [e] at hp1
        cases k1 with
        | zero => simp at hp1
        | succ k1 => cases k2 with
          | zero => simp at hp2
          | succ k2 =>
            simp only [List.nil_append, List.take_succ_cons, List.cons.injEq] at hp1 hp2
            exact hp (by rw [← hp2.1, ← hp1.1, ← e])
end Go.Proofs.YtangpdaoacjinaaDoor
set_option linter.unusedVariables false
set_option linter.unusedSimpArgs false
namespace Go.Proofs.YtangpdaoacjinaaDoor
open Go.RowKit
/-- Words, a blank between. -/
def tjS : List (List UInt8) → List UInt8
  | [] => []
  | x :: r => x ++ r.flatMap fun y => 32 :: y
theorem tjS_snoc (L : List (List UInt8)) (y : List UInt8) (h : L ≠ []) : tjS (L ++ [y]) = tjS L ++ 32 :: y := by
  cases L with
  | nil => exact absurd rfl h
  | cons x r =>
    show x ++ (r ++ [y]).flatMap _ = x ++ r.flatMap _ ++ _
    rw [List.flatMap_append]
    simp
theorem joK_tj (L : List (List UInt8)) : ∀ k, k ≤ L.length → joK ⟨#[32]⟩ (L.map mkL) k = tjS (L.take k)
  | 0, _ => rfl
  | 1, h => by
    cases L with
    | nil => simp at h
    | cons x r =>
      show bysL (mkL x) = tjS [x]
      simp [tjS]; rfl
  | k + 2, h => by
    have ih := joK_tj L (k + 1) (by omega)
    have hk : k + 1 < L.length := by omega
    rw [List.take_succ_eq_append_getElem hk, tjS_snoc _ _ (by
      intro e
      have := congrArg List.length e
      rw [List.length_take, List.length_nil] at this
      omega), ← ih]
    show joK _ _ (k + 1) ++ bysL _ ++ bysL ((L.map mkL).getD (k + 1) ⟨#[]⟩) = _
    rw [List.getD, List.getElem?_map, List.getElem?_eq_getElem hk, List.append_assoc]
    rfl
theorem infoTS : (Tryd.prog.info? 9).map (fun i => (i.zero, i.size, i.bytes)) = some (some (.string ⟨#[]⟩), 1, 16) := by kernel_rfl
/-- A row of words of the call's own. -/
def owS (w : World) (B : Nat) (v : Value) (L : List (List UInt8)) : Prop := w.ownsRow B 9 1 v L.length (L.map fun x => Value.string (mkL x))
theorem owS_below {w w' : World} {B : Nat} {v : Value} {L : List (List UInt8)} (h : owS w B v L) (hb : Below w.heap.size w w') : owS w' B v L :=
  World.ownsRow.kept h (row := none) ⟨hb.os, hb.tape, hb.output, hb.size, fun k hk _ => hb.block k hk⟩ (by cases v.ownBlock <;> simp)
theorem owS_at {w : World} {B : Nat} {v : Value} {L : List (List UInt8)} (h : owS w B v L) : ∃ a c, v = .slice a L.length c ∧ L.length ≤ c ∧ StI w a (L.map mkL) := by
  unfold owS at h
  rcases h.2 with ⟨rfl, h0⟩ | ⟨g, cap, cur, rfl, hB, hg, hle, hr⟩
  · exact ⟨none, 0, by rw [h0], by omega, fun i hi => by rw [List.length_map] at hi; omega⟩
  · refine ⟨_, cap, rfl, hle, fun i hi => ⟨g, 0, rfl, blk_lt hg, ?_⟩⟩
    rw [List.length_map] at hi
    rw [Nat.zero_add, h.cellAt i (by omega), List.getElem?_map, List.getD, List.getElem?_map, List.getElem?_eq_getElem hi]
    rfl
theorem owS_form {w : World} {B n : Nat} {v : Value} {L : List (List UInt8)} (h : owS w B v L) (hn : L.length = n) : ∃ a c, v = .slice a n c := by
  obtain ⟨a, c, e, _⟩ := owS_at h
  exact ⟨a, c, by rw [e, hn]⟩
set_option maxHeartbeats 2000000 in
theorem tjoin_one (x : List UInt8) (a : Option Addr) (c : Nat) (w : World) (h : StI w a [mkL x]) : Calls Tryd.prog 73 #[.slice a 1 c, .string ⟨#[32]⟩] w fun e w' => e = .returned (.string (mkL x)) ∧ w = w' := by
  obtain ⟨b, off, rfl, hbl, h0⟩ := h 0 (Nat.zero_lt_one)
  rw [Nat.add_zero, show ([mkL x] : List ByteArray).getD 0 ⟨#[]⟩ = mkL x from rfl] at h0
  clear h
  go_enter Tryd.func73, Tryd.ntmps73
  go_wp2
  go_ret
  exact ⟨rfl, rfl⟩
theorem tjoin_any (L : List (List UInt8)) (a : Option Addr) (n c : Nat) (w : World) (hn : L.length = n) (h1 : 1 ≤ n) (hm : n ≤ 1000000) (hc : n ≤ c) (hE : ∀ x, x ∈ L → x.length ≤ 1000000) (h : StI w a (L.map mkL)) :
    Calls Tryd.prog 73 #[.slice a n c, .string ⟨#[32]⟩] w fun e w' => e = .returned (.string (mkL (tjS L))) ∧ Below w.heap.size w w' := by
  subst hn
  by_cases h2 : 2 ≤ L.length
  · have hE' : ∀ i, ((L.map mkL).getD i ⟨#[]⟩).size ≤ 1000000 := fun i => by
      rw [List.getD, List.getElem?_map]
      by_cases hi : i < L.length
      · rw [List.getElem?_eq_getElem hi]
        show (mkL L[i]).size ≤ _
        rw [mkL_size]; exact hE _ (List.getElem_mem hi)
      · rw [List.getElem?_eq_none (by omega)]
        exact Nat.zero_le _
    have J := join_any ⟨#[32]⟩ (L.map mkL) a c w (by decide) (by decide) hE' (by rw [List.length_map]; exact h2) (by rw [List.length_map]; exact hm) (by rw [List.length_map]; exact hc) h
    rw [List.length_map, joK_tj L _ (Nat.le_refl _), List.take_length] at J
    exact J
  · match L, h1, h2, h with
    | [x], _, _, h =>
      refine (tjoin_one x a c w h).mono ?_
      rintro e w' ⟨rfl, rfl⟩
      exact ⟨by simp [tjS], Below.refl _ _⟩
    | [], h1, _, _ => simp at h1
    | _ :: _ :: _, _, h2, _ => simp at h2
end Go.Proofs.YtangpdaoacjinaaDoor
set_option linter.unusedVariables false
set_option linter.unusedSimpArgs false
namespace Go.Proofs.YtangpdaoacjinaaDoor
open Go.RowKit
theorem tdec_any (n : Int) (w : World) (h0 : -9223372036854775808 ≤ n) (h1 : n ≤ 9223372036854775807) : Calls Tryd.prog 115 #[.int .i64 n] w fun e w' => e = .returned (.string (mkL (decS n))) ∧ Below w.heap.size w w' := dec_any n w h0 h1
def cfW : List UInt8 := [99, 111, 110, 102]
def cfK (vi : Bool) : List UInt8 := if vi = true then [118, 105] else [101, 109, 97, 99, 115]
def cfL (N : List Int) (k : Nat) : List (List UInt8) := cfW :: (N.take k).map decS
theorem cfL_succ (N : List Int) (k : Nat) (h : k < N.length) : cfL N (k + 1) = cfL N k ++ [decS (N.getD k 0)] := by
  unfold cfL
  rw [List.take_succ_eq_append_getElem h, List.map_append, List.getD, List.getElem?_eq_getElem h]; rfl
theorem cfL_len (N : List Int) (k : Nat) (h : k ≤ N.length) : (cfL N k).length = k + 1 := by
  unfold cfL; rw [List.length_cons, List.length_map, List.length_take]; omega
def cfLine (N : List Int) (vi : Bool) (p : List UInt8) : List UInt8 := tjS (cfL N 8 ++ [cfK vi, wdL p])
def in64 (v : Int) : Prop := -9223372036854775808 ≤ v ∧ v ≤ 9223372036854775807
theorem tst_ne_cf : 29 ≠ 9 := by decide
theorem tst_ne_i : 3 ≠ 9 := by decide
set_option maxHeartbeats 8000000 in
set_option maxRecDepth 100000 in
theorem tconf_any (n0 n1 n2 n3 n4 n5 n6 n7 : Int) (vi : Bool) (p : List UInt8) (w : World) (hp : p.length ≤ 300000) (hN : ∀ x, x ∈ [n0, n1, n2, n3, n4, n5, n6, n7] → in64 x) :
    Calls Tryd.prog 61 #[.agg #[.int .i64 n0, .int .i64 n1, .int .i64 n2, .int .i64 n3, .int .i64 n4, .int .i64 n5, .int .i64 n6, .int .i64 n7, .bool vi, .string (mkL p)]] w fun e w' => e = .returned (.string (mkL (cfLine [n0, n1, n2, n3, n4, n5, n6, n7] vi p))) ∧ Below w.heap.size w w' := by
  obtain ⟨i0, hi, hz0, hz1, hz2⟩ := info_parts infoTS
  obtain ⟨R, hR⟩ : ∃ R, cfLine [n0, n1, n2, n3, n4, n5, n6, n7] vi p = R := ⟨_, rfl⟩
  rw [hR]
  have HR := Lib.hid hR
  have HN := Lib.hid hN
  have b0 := below_alloc w (.cells #[.int .i64 n0, .int .i64 n1, .int .i64 n2, .int .i64 n3, .int .i64 n4, .int .i64 n5, .int .i64 n6, .int .i64 n7, .bool vi, .string (mkL p)] 29)
  have r0 := heap_alloc_new w (.cells #[.int .i64 n0, .int .i64 n1, .int .i64 n2, .int .i64 n3, .int .i64 n4, .int .i64 n5, .int .i64 n6, .int .i64 n7, .bool vi, .string (mkL p)] 29)
  obtain ⟨W0, hW0⟩ : ∃ W0, w.alloc (.cells #[.int .i64 n0, .int .i64 n1, .int .i64 n2, .int .i64 n3, .int .i64 n4, .int .i64 n5, .int .i64 n6, .int .i64 n7, .bool vi, .string (mkL p)] 29) = W0 := ⟨_, rfl⟩
  rw [hW0] at b0 r0
  have b1 := below_alloc W0 (.cells #[.string (mkL cfW)] 9)
  have o1 : owS (W0.alloc (.cells #[.string (mkL cfW)] 9)) w.heap.size (.slice (some ⟨W0.heap.size, 0, none⟩) 1 1) (cfL [n0, n1, n2, n3, n4, n5, n6, n7] 0) := ⟨rfl, .inr ⟨W0.heap.size, 1, #[.string (mkL cfW)], rfl, b0.size, heap_alloc_new _ _, Nat.le_refl _, by decide, rfl, rfl⟩⟩
  have r1 := blk_below r0 b1
  have b01 := seqB b0 b1
  have o1' : owS (W0.alloc (.cells #[.string ⟨#[99, 111, 110, 102]⟩] 9)) w.heap.size (.slice (some ⟨W0.heap.size, 0, none⟩) 1 1) (cfL [n0, n1, n2, n3, n4, n5, n6, n7] 0) := o1
  have b1' : Below W0.heap.size W0 (W0.alloc (.cells #[.string ⟨#[99, 111, 110, 102]⟩] 9)) := b1
  have r1' : (W0.alloc (.cells #[.string ⟨#[99, 111, 110, 102]⟩] 9)).heap[w.heap.size]? = some (.cells #[.int .i64 n0, .int .i64 n1, .int .i64 n2, .int .i64 n3, .int .i64 n4, .int .i64 n5, .int .i64 n6, .int .i64 n7, .bool vi, .string (mkL p)] 29 (0, 0)) := r1
  have b01' : Below w.heap.size w (W0.alloc (.cells #[.string ⟨#[99, 111, 110, 102]⟩] 9)) := b01
  clear o1 b1 r1 b01
  obtain ⟨S0, hS0⟩ : ∃ S0, W0.heap.size = S0 := ⟨_, rfl⟩
  obtain ⟨W1, hW1⟩ : ∃ W1, W0.alloc (.cells #[.string ⟨#[99, 111, 110, 102]⟩] 9) = W1 := ⟨_, rfl⟩
  rw [hW1] at b1' r1' b01' o1'
  rw [hS0] at o1'
  have b2 := below_alloc W1 (.cells #[.int .i64 n0, .int .i64 n1, .int .i64 n2, .int .i64 n3, .int .i64 n4, .int .i64 n5, .int .i64 n6, .int .i64 n7] 3)
  have q2 := heap_alloc_new W1 (.cells #[.int .i64 n0, .int .i64 n1, .int .i64 n2, .int .i64 n3, .int .i64 n4, .int .i64 n5, .int .i64 n6, .int .i64 n7] 3)
  have O2 := Lib.hid (owS_below o1' b2)
  have R2 := Lib.hid (blk_below r1' b2)
  have B2 := Lib.hid (seqB b01' b2)
  have zz := fun i => cell_of_row _ _ i _ _ _ r1'
  have f0 := zz 0; have f1 := zz 1; have f2 := zz 2; have f3 := zz 3; have f4 := zz 4; have f5 := zz 5; have f6 := zz 6; have f7 := zz 7
  dsimp at f0 f1 f2 f3 f4 f5 f6 f7
  have Q2 := Lib.hid q2
  clear zz o1' b1' r1' b01' b0 r0 b2 q2 hR hN
  go_enter Tryd.func61, Tryd.ntmps61
  go_upto_region 2 with fail
  clear hS0 hW0
  go_upto_region 3 with fail
  clear hW1 f0 f1 f2 f3 f4 f5 f6 f7
  obtain ⟨N, hNN⟩ : ∃ N, [n0, n1, n2, n3, n4, n5, n6, n7] = N := ⟨_, rfl⟩
  have hNl : N.length = 8 := by rw [← hNN]; rfl
  have hrow : #[Value.int .i64 n0, .int .i64 n1, .int .i64 n2, .int .i64 n3, .int .i64 n4, .int .i64 n5, .int .i64 n6, .int .i64 n7] = (N.map (Value.int .i64)).toArray := by rw [← hNN]; rfl
  rw [hNN] at HN HR O2
  rw [hrow] at Q2 R2 O2 B2 ⊢
  clear hrow hNN
  obtain ⟨S1, hS1⟩ : ∃ S1, W1.heap.size = S1 := ⟨_, rfl⟩
  obtain ⟨CF, hCF⟩ : ∃ CF, #[Value.int .i64 n0, .int .i64 n1, .int .i64 n2, .int .i64 n3, .int .i64 n4, .int .i64 n5, .int .i64 n6, .int .i64 n7, .bool vi, .string (mkL p)] = CF := ⟨_, rfl⟩
  have g8 : CF[8]? = some (.bool vi) := by rw [← hCF]; rfl
  have g9 : CF[9]? = some (.string (mkL p)) := by rw [← hCF]; rfl
  rw [hCF] at R2
  rw [hS1] at Q2 ⊢
  obtain ⟨W2, hW2⟩ : ∃ W2, W1.alloc (.cells (N.map (Value.int .i64)).toArray 3) = W2 := ⟨_, rfl⟩
  rw [hW2] at Q2 R2 O2 B2 ⊢
  clear hW2 hS1 hCF
  obtain ⟨m, hm⟩ : ∃ m : Nat, m = 8 := ⟨_, rfl⟩
  rw [show Value.slice (some ⟨S1, 0, none⟩) 8 8 = Value.slice (some ⟨S1, 0, none⟩) m m by rw [hm], show Value.int .i64 8 = Value.int .i64 (m : Int) by rw [hm]; rfl]
  replace hm := Lib.hid hm
  go_loopw [3, 26] (fun wv iv wr => ∃ (k : Nat) (a : Option Addr) (c : Nat), k ≤ m ∧ iv = .int .i64 (k : Int) ∧ wv = .slice a (k + 1) c ∧ Hid (owS wr w.heap.size (.slice a (k + 1) c) (cfL N k)) ∧ Hid (wr.heap[w.heap.size]? = some (.cells CF 29 (0, 0))) ∧ Hid (wr.heap[S1]? = some (.cells (N.map (Value.int .i64)).toArray 3 (0, 0))) ∧ Hid (Below w.heap.size w wr)) (fun _ iv _ => m - (intOf iv).toNat)
  case atStart => exact ⟨0, _, 1, Nat.zero_le _, rfl, rfl, O2, R2, Q2, B2⟩
  case round =>
    clear O2 R2 Q2 B2
    obtain ⟨k, a, c, hk, rfl, rfl, HO, HX, HQ, HB⟩ := hrel
    have NB := HB.out
    have hsz := NB.size
    have hown := HO.out
    unfold owS at hown
    have hm8 := hm.out
    have hcl := cfL_len N k (by omega)
    have hNk : k < m → k < N.length := fun h => by omega
    have hm9 : (m : Int) ≤ 8 := by omega
    clear hm8
    rw [hcl] at hown
    by_cases hlt : k < m
    · have hk1 : (k : Int) < (m : Int) := by omega
      have hk0 : (0 : Int) ≤ k := by omega
      have d := cell_of_row _ _ k _ _ _ HQ.out
      rw [List.getElem?_toArray, List.getElem?_map, List.getElem?_eq_getElem (hNk hlt)] at d
      have hg : N.getD k 0 = N[k]'(hNk hlt) := by rw [List.getD, List.getElem?_eq_getElem (hNk hlt)]; rfl
      have hin := HN.out (N[k]'(hNk hlt)) (List.getElem_mem _)
      have hcs := cfL_succ N k (hNk hlt)
      rw [hg] at hcs
      dsimp at d
      generalize (N[k]'(hNk hlt)) = v at *
      have D := Lib.hid (fun w => tdec_any v w hin.1 hin.2)
      have HCS := Lib.hid hcs
      generalize cfL N k = L at *
      generalize decS v = dv at *
      clear hcs hin hg HO
      go_wp2_with (first
        | (go_at_call 115; refine (D.out _).mono ?_; rintro e w3 ⟨rfl, hb3⟩; have hown3 : w3.ownsRow w.heap.size 9 1 (.slice a (k + 1) c) (k + 1) _ := World.ownsRow.kept hown (row := none) ⟨hb3.os, hb3.tape, hb3.output, hb3.size, fun k hk _ => hb3.block k hk⟩ (by cases (Value.slice a (k + 1) c).ownBlock <;> simp); have hb4 := seqB NB hb3; have hsz4 := hb4.size; have h3X := blk_below HX.out hb3; have h3Q := blk_below HQ.out hb3)
        | (at_builtin; refine wpList_append_own _ rfl _ _ 39 rfl w.heap.size 9 i0 _ 1 16 Tryd.underlying39 hi hz0 hz1 hz2 rfl (by decide) _ _ _ rfl (hown3.alloc _) ⟨w3.heap.size, 0, none⟩ 1 1 [.string (mkL dv)] rfl rfl ?g1 ?g2 ?g3 ?g4 ?g5 ?_))
      case g1 => intro j x hj; exact app_cells rfl hj
      case g2 => simp [Value.oneCell']
      case g3 => unfold maxLen; omega
      case g4 => omega
      case g5 => simp; omega
      intro v' w5 hown5 hgrow5 _
      have hA := below_alloc w3 (.cells #[.string (mkL dv)] 9)
      have N5 := Lib.hid ((hb4.alloc hb4.size (.cells #[.string (mkL dv)] 9)).grown hgrow5 (by simp; omega) (fun j hj => (hown3.lt j hj).1))
      have hX5 := (hgrow5.block w.heap.size (blk_lt (blk_below h3X hA)) (fun e => own_ne_kind (hown3.alloc _) (blk_below h3X hA) tst_ne_cf e.symm)).trans (blk_below h3X hA)
      have hQ5 := (hgrow5.block S1 (blk_lt (blk_below h3Q hA)) (fun e => own_ne_kind (hown3.alloc _) (blk_below h3Q hA) tst_ne_i e.symm)).trans (blk_below h3Q hA)
      have O5 : owS w5 w.heap.size v' (cfL N (k + 1)) := by
        unfold owS
        rw [HCS.out, List.length_append, List.map_append, hcl]
        exact hown5
      obtain ⟨a5, c5, e5⟩ := owS_form O5 (n := k + 1 + 1) (by rw [cfL_len N (k + 1) (hNk hlt)])
      subst e5
      have O5 := Lib.hid O5
      have X5 := Lib.hid hX5
      have Q5 := Lib.hid hQ5
      clear hown5 hgrow5 hown3 hown hA hX5 hQ5 h3X h3Q
      go_wp2
      go_roundw
      case rel => exact ⟨k + 1, a5, c5, by omega, by go_num, rfl, O5, X5, Q5, N5⟩
      case measure => (simp [intOf]; try omega)
    · obtain rfl : k = m := by omega
      have hmm : ¬ (k : Int) < (k : Int) := by omega
      have f8 := (cell_of_row _ _ 8 _ _ _ HX.out).trans g8
      have f9 := (cell_of_row _ _ 9 _ _ _ HX.out).trans g9
      have TW := Lib.hid (fun w => tword_any p w (by omega))
      have hwl := wdL_len p
      have HE : Hid (∀ x, x ∈ cfL N 8 ++ [cfK vi, wdL p] → x.length ≤ 1000000) := Lib.hid (fun x hx => by
        rcases List.mem_append.1 hx with hx | hx
        · unfold cfL at hx
          rcases List.mem_cons.1 hx with rfl | hx
          · decide
          · obtain ⟨y, _, rfl⟩ := List.mem_map.1 hx
            have := decS_len y; omega
        · rcases List.mem_cons.1 hx with rfl | hx
          · cases vi <;> decide
          · rcases List.mem_cons.1 hx with rfl | hx
            · omega
            · cases hx)
      clear hwl hNk
      cases vi
      · go_wp2_with (first
          | (go_at_call 13; refine (TW.out _).mono ?_; rintro e w3 ⟨rfl, hb3⟩; have hown3 : w3.ownsRow w.heap.size 9 1 (.slice a (k + 1) c) (k + 1) _ := World.ownsRow.kept hown (row := none) ⟨hb3.os, hb3.tape, hb3.output, hb3.size, fun k hk _ => hb3.block k hk⟩ (by cases (Value.slice a (k + 1) c).ownBlock <;> simp); have hb4 := seqB NB hb3; have hsz4 := hb4.size)
          | (at_builtin; refine wpList_append_own _ rfl _ _ 39 rfl w.heap.size 9 i0 _ 1 16 Tryd.underlying39 hi hz0 hz1 hz2 rfl (by decide) _ _ _ rfl (hown3.alloc _) ⟨w3.heap.size, 0, none⟩ 2 2 [.string ⟨#[101, 109, 97, 99, 115]⟩, .string (mkL (wdL p))] rfl rfl ?g1 ?g2 ?g3 ?g4 ?g5 ?_))
        case g1 => intro j x hj; exact app_cells rfl hj
        case g2 => simp [Value.oneCell']
        case g3 => unfold maxLen; omega
        case g4 => omega
        case g5 => simp; omega
        intro v' w5 hown5 hgrow5 _
        have N5 := Lib.hid ((hb4.alloc hb4.size (.cells #[.string ⟨#[101, 109, 97, 99, 115]⟩, .string (mkL (wdL p))] 9)).grown hgrow5 (by simp; omega) (fun j hj => (hown3.lt j hj).1))
        have O5 : owS w5 w.heap.size v' (cfL N k ++ [cfK false, wdL p]) := by
          unfold owS
          rw [List.length_append, List.map_append, hcl]
          exact hown5
        obtain ⟨a5, c5, e5, hle5, s5⟩ := owS_at O5
        have hl5 : (cfL N k ++ [cfK false, wdL p]).length = k + 3 := by rw [List.length_append, hcl]; rfl
        have JN := Lib.hid (tjoin_any (cfL N k ++ [cfK false, wdL p]) a5 (k + 3) c5 w5 hl5 (by omega) (by omega) (by omega) (by rw [hm.out]; exact HE.out) s5)
        have HJ : Hid (tjS (cfL N k ++ [cfK false, wdL p]) = R) := Lib.hid (by rw [← HR.out, hm.out]; rfl)
        rw [HJ.out] at JN
        rw [hl5] at e5
        subst e5
        clear hown5 hgrow5 hown3 hown O5 hle5 s5 hl5
        go_wp2_with (go_at_call 73; refine JN.out.mono ?_; rintro e w6 ⟨rfl, hb6⟩)
        go_ret
        exact ⟨rfl, seqB N5.out hb6⟩
      · go_wp2_with (first
          | (go_at_call 13; refine (TW.out _).mono ?_; rintro e w3 ⟨rfl, hb3⟩; have hown3 : w3.ownsRow w.heap.size 9 1 (.slice a (k + 1) c) (k + 1) _ := World.ownsRow.kept hown (row := none) ⟨hb3.os, hb3.tape, hb3.output, hb3.size, fun k hk _ => hb3.block k hk⟩ (by cases (Value.slice a (k + 1) c).ownBlock <;> simp); have hb4 := seqB NB hb3; have hsz4 := hb4.size)
          | (at_builtin; refine wpList_append_own _ rfl _ _ 39 rfl w.heap.size 9 i0 _ 1 16 Tryd.underlying39 hi hz0 hz1 hz2 rfl (by decide) _ _ _ rfl (hown3.alloc _) ⟨w3.heap.size, 0, none⟩ 2 2 [.string ⟨#[118, 105]⟩, .string (mkL (wdL p))] rfl rfl ?g1 ?g2 ?g3 ?g4 ?g5 ?_))
        case g1 => intro j x hj; exact app_cells rfl hj
        case g2 => simp [Value.oneCell']
        case g3 => unfold maxLen; omega
        case g4 => omega
        case g5 => simp; omega
        intro v' w5 hown5 hgrow5 _
        have N5 := Lib.hid ((hb4.alloc hb4.size (.cells #[.string ⟨#[118, 105]⟩, .string (mkL (wdL p))] 9)).grown hgrow5 (by simp; omega) (fun j hj => (hown3.lt j hj).1))
        have O5 : owS w5 w.heap.size v' (cfL N k ++ [cfK true, wdL p]) := by
          unfold owS
          rw [List.length_append, List.map_append, hcl]
          exact hown5
        obtain ⟨a5, c5, e5, hle5, s5⟩ := owS_at O5
        have hl5 : (cfL N k ++ [cfK true, wdL p]).length = k + 3 := by rw [List.length_append, hcl]; rfl
        have JN := Lib.hid (tjoin_any (cfL N k ++ [cfK true, wdL p]) a5 (k + 3) c5 w5 hl5 (by omega) (by omega) (by omega) (by rw [hm.out]; exact HE.out) s5)
        have HJ : Hid (tjS (cfL N k ++ [cfK true, wdL p]) = R) := Lib.hid (by rw [← HR.out, hm.out]; rfl)
        rw [HJ.out] at JN
        rw [hl5] at e5
        subst e5
        clear hown5 hgrow5 hown3 hown O5 hle5 s5 hl5
        go_wp2_with (go_at_call 73; refine JN.out.mono ?_; rintro e w6 ⟨rfl, hb6⟩)
        go_ret
        exact ⟨rfl, seqB N5.out hb6⟩
end Go.Proofs.YtangpdaoacjinaaDoor
set_option linter.unusedVariables false
set_option linter.unusedSimpArgs false
namespace Go.Proofs.YtangpdaoacjinaaDoor
open Go.RowKit
def crW : List UInt8 := [99, 114, 97, 115, 104]
def crLine (at' : Int) (keep : List UInt8) : List UInt8 := tjS [crW, decS at', wdL keep]
/-- Bytes that lie in memory read as a text. -/
def Cvt (w : World) (a : Option Addr) (n c : Nat) (l : List UInt8) : Prop := ∀ w', Below w.heap.size w w' → ∀ dst, Tryd.prog.underlying dst = some .string → (convert 97 dst (.slice a n c)).run Tryd.prog w' = .ok (.string (mkL l)) w'
theorem sti_three (w : World) (x y z : List UInt8) : StI (w.alloc (.cells #[.string (mkL x), .string (mkL y), .string (mkL z)] 9)) (some ⟨w.heap.size, 0, none⟩) ([x, y, z].map mkL) := fun i hi => by
  refine ⟨_, 0, rfl, by simp, ?_⟩
  rw [Nat.zero_add, cell_of_row _ _ i _ _ _ (heap_alloc_new _ _)]
  match i, hi with
  | 0, _ => rfl
  | 1, _ => rfl
  | 2, _ => rfl
  | i + 3, h => exact absurd h (by simp)
set_option maxHeartbeats 8000000 in
set_option maxRecDepth 100000 in
theorem tcrash_any (at' : Int) (keep : List UInt8) (a : Option Addr) (n c : Nat) (w : World) (ha : in64 at') (hk : keep.length ≤ 300000) (hC : Cvt w a n c keep) :
    Calls Tryd.prog 62 #[.agg #[.int .i64 at', .slice a n c]] w fun e w' => e = .returned (.string (mkL (crLine at' keep))) ∧ Below w.heap.size w w' := by
  have hdl := decS_len at'
  have hwl := wdL_len keep
  have b0 := below_alloc w (.cells #[.int .i64 at', .slice a n c] 109)
  have r0 := heap_alloc_new w (.cells #[.int .i64 at', .slice a n c] 109)
  obtain ⟨W0, hW0⟩ : ∃ W0, w.alloc (.cells #[.int .i64 at', .slice a n c] 109) = W0 := ⟨_, rfl⟩
  rw [hW0] at b0 r0
  have D := Lib.hid (fun w => tdec_any at' w ha.1 ha.2)
  have TW := Lib.hid (fun w => tword_any keep w (by omega))
  have JN := Lib.hid (fun (w : World) => tjoin_any [crW, decS at', wdL keep] (some ⟨w.heap.size, 0, none⟩) 3 3 (w.alloc (.cells #[.string (mkL crW), .string (mkL (decS at')), .string (mkL (wdL keep))] 9)) rfl (by omega) (by omega) (by omega) (by
    intro x hx
    rcases List.mem_cons.1 hx with rfl | hx
    · decide
    · rcases List.mem_cons.1 hx with rfl | hx
      · omega
      · rcases List.mem_cons.1 hx with rfl | hx
        · omega
        · cases hx) (sti_three w _ _ _))
  have f0 := cell_of_row _ _ 0 _ _ _ r0
  have f1 := cell_of_row _ _ 1 _ _ _ r0
  dsimp at f0 f1
  have hlt := Lib.hid (blk_lt r0)
  have HC := Lib.hid hC
  have B0 := Lib.hid b0
  have F := Lib.hid (And.intro f0 f1)
  obtain ⟨R, hR⟩ : ∃ R, crLine at' keep = R := ⟨_, rfl⟩
  have HR : Hid (tjS [crW, decS at', wdL keep] = R) := Lib.hid hR
  rw [HR.out] at JN
  rw [hR]
  generalize decS at' = ds at *
  generalize wdL keep = wk at *
  have cv0 := hC W0 b0
  have cvd := hC W0.drew b0.drew
  clear hdl hwl hC ha hR b0 r0
  go_enter Tryd.func62, Tryd.ntmps62
  go_upto_region 1 with fail
  go_region_with (first
    | (go_at_call 115; refine (D.out _).mono ?_; rintro e w3 ⟨rfl, hb3⟩; have B3 := Lib.hid (seqB B0.out.drew hb3); have f03 := (hb3.cell (p := ⟨w.heap.size, 0, none⟩) hlt.out).trans F.out.1; have f13 := (hb3.cell (p := ⟨w.heap.size, 1, none⟩) hlt.out).trans F.out.2; have cv3 := HC.out w3 B3.out; clear hb3)
    | (go_at_call 13; refine (TW.out _).mono ?_; rintro e w4 ⟨rfl, hb4⟩)
    | (go_at_call 73; refine (JN.out _).mono ?_; rintro e w5 ⟨rfl, hb5⟩))
  all_goals
    have NN := seqB (seqB B3.out hb4) (seqB (below_alloc w4 _) hb5)
    go_wp2
    go_ret
    exact ⟨rfl, NN⟩
end Go.Proofs.YtangpdaoacjinaaDoor
set_option linter.unusedVariables false
set_option linter.unusedSimpArgs false
namespace Go.Proofs.YtangpdaoacjinaaDoor
open Go.RowKit
theorem owS_1 (w : World) (B : Nat) (x : List UInt8) (hB : B ≤ w.heap.size) : owS (w.alloc (.cells #[.string (mkL x)] 9)) B (.slice (some ⟨w.heap.size, 0, none⟩) 1 1) [x] := ⟨rfl, .inr ⟨w.heap.size, 1, #[.string (mkL x)], rfl, hB, heap_alloc_new _ _, Nat.le_refl _, by decide, rfl, rfl⟩⟩
theorem owS_2 (w : World) (B : Nat) (x y : List UInt8) (hB : B ≤ w.heap.size) : owS (w.alloc (.cells #[.string (mkL x), .string (mkL y)] 9)) B (.slice (some ⟨w.heap.size, 0, none⟩) 2 2) [x, y] := ⟨rfl, .inr ⟨w.heap.size, 2, #[.string (mkL x), .string (mkL y)], rfl, hB, heap_alloc_new _ _, Nat.le_refl _, by decide, rfl, rfl⟩⟩
theorem owS_3 (w : World) (B : Nat) (x y z : List UInt8) (hB : B ≤ w.heap.size) : owS (w.alloc (.cells #[.string (mkL x), .string (mkL y), .string (mkL z)] 9)) B (.slice (some ⟨w.heap.size, 0, none⟩) 3 3) [x, y, z] := ⟨rfl, .inr ⟨w.heap.size, 3, #[.string (mkL x), .string (mkL y), .string (mkL z)], rfl, hB, heap_alloc_new _ _, Nat.le_refl _, by decide, rfl, rfl⟩⟩
def byW : List UInt8 := [98, 121, 116, 101, 115]
def tiW : List UInt8 := [116, 105, 99, 107]
def reW : List UInt8 := [114, 101, 115, 105, 122, 101]
def ofW : List UInt8 := [111, 102, 102, 101, 114]
def loW : List UInt8 := [108, 111, 97, 100]
def saW : List UInt8 := [115, 97, 118, 101]
def poW : List UInt8 := [112, 111, 119, 101, 114]
/-- The words of a step: none, if there is no such kind. -/
def swW (k : Int) (t : List UInt8) (n m : Int) (L : List (List UInt8)) : Option (List (List UInt8)) :=
  if k = 0 then some [byW, wdL t] else if k = 1 then some [tiW] else if k = 2 then some [reW, decS n, decS m] else if k = 3 then some (ofW :: L.map wdL)
  else if k = 4 then (if n = 1 then some [loW, wdL t] else some [loW]) else if k = 5 then some [saW] else if k = 6 then some [poW] else none
/-- What is answered of a step's words. -/
def SwP (w : World) (o : Option (List (List UInt8))) (e : Ending) (w' : World) : Prop := (∃ v, e = .returned (.tuple #[v, .bool o.isSome]) ∧ owS w' w.heap.size v (o.getD [])) ∧ Below w.heap.size w w'
section
variable (t : List UInt8) (n m : Int) (a : Option Addr) (l c : Nat) (w : World)
set_option maxHeartbeats 4000000 in
set_option maxRecDepth 100000 in
theorem tsw_0 (ht : t.length ≤ 300000) : Calls Tryd.prog 71 #[.agg #[.int .i64 0, .string (mkL t), .int .i64 n, .int .i64 m, .slice a l c]] w (SwP w (some [byW, wdL t])) := by
  have b0 := below_alloc w (.cells #[.int .i64 0, .string (mkL t), .int .i64 n, .int .i64 m, .slice a l c] 41)
  have r0 := heap_alloc_new w (.cells #[.int .i64 0, .string (mkL t), .int .i64 n, .int .i64 m, .slice a l c] 41)
  obtain ⟨W0, hW0⟩ : ∃ W0, w.alloc (.cells #[.int .i64 0, .string (mkL t), .int .i64 n, .int .i64 m, .slice a l c] 41) = W0 := ⟨_, rfl⟩
  rw [hW0] at b0 r0
  have zz := fun i => cell_of_row _ _ i _ _ _ r0
  have f0 := zz 0; have f1 := zz 1; have f2 := zz 2
  dsimp at f0 f1 f2
  have B0 := Lib.hid b0
  have TW := Lib.hid (fun w => tword_any t w (by omega))
  clear zz b0 r0 ht
  go_enter Tryd.func71, Tryd.ntmps71
  go_wp2_with (go_at_call 13; refine (TW.out _).mono ?_; rintro e w3 ⟨rfl, hb3⟩; have B3 := Lib.hid (seqB B0.out hb3))
  refine bodyPost_ret (v := .tuple #[.slice (some ⟨w3.heap.size, 0, none⟩) 2 2, .bool true]) (by simp [results, Tryd.results71, go_sem]) rfl ?_
  exact ⟨⟨_, rfl, owS_2 w3 w.heap.size byW (wdL t) B3.out.size⟩, seqB B3.out (below_alloc w3 _)⟩
set_option maxHeartbeats 4000000 in
set_option maxRecDepth 100000 in
theorem tsw_1  : Calls Tryd.prog 71 #[.agg #[.int .i64 1, .string (mkL t), .int .i64 n, .int .i64 m, .slice a l c]] w (SwP w (some [tiW])) := by
  have b0 := below_alloc w (.cells #[.int .i64 1, .string (mkL t), .int .i64 n, .int .i64 m, .slice a l c] 41)
  have r0 := heap_alloc_new w (.cells #[.int .i64 1, .string (mkL t), .int .i64 n, .int .i64 m, .slice a l c] 41)
  obtain ⟨W0, hW0⟩ : ∃ W0, w.alloc (.cells #[.int .i64 1, .string (mkL t), .int .i64 n, .int .i64 m, .slice a l c] 41) = W0 := ⟨_, rfl⟩
  rw [hW0] at b0 r0
  have zz := fun i => cell_of_row _ _ i _ _ _ r0
  have f0 := zz 0; have f1 := zz 1; have f2 := zz 2
  dsimp at f0 f1 f2
  have B0 := Lib.hid b0
  clear zz b0 r0
  go_enter Tryd.func71, Tryd.ntmps71
  go_wp2
  refine bodyPost_ret (v := .tuple #[.slice (some ⟨W0.heap.size, 0, none⟩) 1 1, .bool true]) (by simp [results, Tryd.results71, go_sem]) rfl ?_
  exact ⟨⟨_, rfl, owS_1 W0 w.heap.size tiW B0.out.size⟩, seqB B0.out (below_alloc W0 _)⟩
set_option maxHeartbeats 4000000 in
set_option maxRecDepth 100000 in
theorem tsw_4 (ht : t.length ≤ 300000) : Calls Tryd.prog 71 #[.agg #[.int .i64 4, .string (mkL t), .int .i64 1, .int .i64 m, .slice a l c]] w (SwP w (some [loW, wdL t])) := by
  have b0 := below_alloc w (.cells #[.int .i64 4, .string (mkL t), .int .i64 1, .int .i64 m, .slice a l c] 41)
  have r0 := heap_alloc_new w (.cells #[.int .i64 4, .string (mkL t), .int .i64 1, .int .i64 m, .slice a l c] 41)
  obtain ⟨W0, hW0⟩ : ∃ W0, w.alloc (.cells #[.int .i64 4, .string (mkL t), .int .i64 1, .int .i64 m, .slice a l c] 41) = W0 := ⟨_, rfl⟩
  rw [hW0] at b0 r0
  have zz := fun i => cell_of_row _ _ i _ _ _ r0
  have f0 := zz 0; have f1 := zz 1; have f2 := zz 2
  dsimp at f0 f1 f2
  have B0 := Lib.hid b0
  have TW := Lib.hid (fun w => tword_any t w (by omega))
  clear zz b0 r0 ht
  go_enter Tryd.func71, Tryd.ntmps71
  go_wp2_with (go_at_call 13; refine (TW.out _).mono ?_; rintro e w3 ⟨rfl, hb3⟩; have B3 := Lib.hid (seqB B0.out hb3))
  refine bodyPost_ret (v := .tuple #[.slice (some ⟨w3.heap.size, 0, none⟩) 2 2, .bool true]) (by simp [results, Tryd.results71, go_sem]) rfl ?_
  exact ⟨⟨_, rfl, owS_2 w3 w.heap.size loW (wdL t) B3.out.size⟩, seqB B3.out (below_alloc w3 _)⟩
set_option maxHeartbeats 4000000 in
set_option maxRecDepth 100000 in
theorem tsw_4n (hn : (n == 1) = false) : Calls Tryd.prog 71 #[.agg #[.int .i64 4, .string (mkL t), .int .i64 n, .int .i64 m, .slice a l c]] w (SwP w (some [loW])) := by
  have b0 := below_alloc w (.cells #[.int .i64 4, .string (mkL t), .int .i64 n, .int .i64 m, .slice a l c] 41)
  have r0 := heap_alloc_new w (.cells #[.int .i64 4, .string (mkL t), .int .i64 n, .int .i64 m, .slice a l c] 41)
  obtain ⟨W0, hW0⟩ : ∃ W0, w.alloc (.cells #[.int .i64 4, .string (mkL t), .int .i64 n, .int .i64 m, .slice a l c] 41) = W0 := ⟨_, rfl⟩
  rw [hW0] at b0 r0
  have zz := fun i => cell_of_row _ _ i _ _ _ r0
  have f0 := zz 0; have f1 := zz 1; have f2 := zz 2
  dsimp at f0 f1 f2
  have B0 := Lib.hid b0
  clear zz b0 r0
  go_enter Tryd.func71, Tryd.ntmps71
  go_wp2
  refine bodyPost_ret (v := .tuple #[.slice (some ⟨W0.heap.size, 0, none⟩) 1 1, .bool true]) (by simp [results, Tryd.results71, go_sem]) rfl ?_
  exact ⟨⟨_, rfl, owS_1 W0 w.heap.size loW B0.out.size⟩, seqB B0.out (below_alloc W0 _)⟩
set_option maxHeartbeats 4000000 in
set_option maxRecDepth 100000 in
theorem tsw_5  : Calls Tryd.prog 71 #[.agg #[.int .i64 5, .string (mkL t), .int .i64 n, .int .i64 m, .slice a l c]] w (SwP w (some [saW])) := by
  have b0 := below_alloc w (.cells #[.int .i64 5, .string (mkL t), .int .i64 n, .int .i64 m, .slice a l c] 41)
  have r0 := heap_alloc_new w (.cells #[.int .i64 5, .string (mkL t), .int .i64 n, .int .i64 m, .slice a l c] 41)
  obtain ⟨W0, hW0⟩ : ∃ W0, w.alloc (.cells #[.int .i64 5, .string (mkL t), .int .i64 n, .int .i64 m, .slice a l c] 41) = W0 := ⟨_, rfl⟩
  rw [hW0] at b0 r0
  have zz := fun i => cell_of_row _ _ i _ _ _ r0
  have f0 := zz 0; have f1 := zz 1; have f2 := zz 2
  dsimp at f0 f1 f2
  have B0 := Lib.hid b0
  clear zz b0 r0
  go_enter Tryd.func71, Tryd.ntmps71
  go_wp2
  refine bodyPost_ret (v := .tuple #[.slice (some ⟨W0.heap.size, 0, none⟩) 1 1, .bool true]) (by simp [results, Tryd.results71, go_sem]) rfl ?_
  exact ⟨⟨_, rfl, owS_1 W0 w.heap.size saW B0.out.size⟩, seqB B0.out (below_alloc W0 _)⟩
set_option maxHeartbeats 4000000 in
set_option maxRecDepth 100000 in
theorem tsw_6  : Calls Tryd.prog 71 #[.agg #[.int .i64 6, .string (mkL t), .int .i64 n, .int .i64 m, .slice a l c]] w (SwP w (some [poW])) := by
  have b0 := below_alloc w (.cells #[.int .i64 6, .string (mkL t), .int .i64 n, .int .i64 m, .slice a l c] 41)
  have r0 := heap_alloc_new w (.cells #[.int .i64 6, .string (mkL t), .int .i64 n, .int .i64 m, .slice a l c] 41)
  obtain ⟨W0, hW0⟩ : ∃ W0, w.alloc (.cells #[.int .i64 6, .string (mkL t), .int .i64 n, .int .i64 m, .slice a l c] 41) = W0 := ⟨_, rfl⟩
  rw [hW0] at b0 r0
  have zz := fun i => cell_of_row _ _ i _ _ _ r0
  have f0 := zz 0; have f1 := zz 1; have f2 := zz 2
  dsimp at f0 f1 f2
  have B0 := Lib.hid b0
  clear zz b0 r0
  go_enter Tryd.func71, Tryd.ntmps71
  go_wp2
  refine bodyPost_ret (v := .tuple #[.slice (some ⟨W0.heap.size, 0, none⟩) 1 1, .bool true]) (by simp [results, Tryd.results71, go_sem]) rfl ?_
  exact ⟨⟨_, rfl, owS_1 W0 w.heap.size poW B0.out.size⟩, seqB B0.out (below_alloc W0 _)⟩
set_option maxHeartbeats 4000000 in
set_option maxRecDepth 100000 in
theorem tsw_no (k : Int) (h0 : (k == 0) = false) (h1 : (k == 1) = false) (h2 : (k == 2) = false) (h3 : (k == 3) = false) (h4 : (k == 4) = false) (h5 : (k == 5) = false) (h6 : (k == 6) = false) : Calls Tryd.prog 71 #[.agg #[.int .i64 k, .string (mkL t), .int .i64 n, .int .i64 m, .slice a l c]] w (SwP w none) := by
  have b0 := below_alloc w (.cells #[.int .i64 k, .string (mkL t), .int .i64 n, .int .i64 m, .slice a l c] 41)
  have r0 := heap_alloc_new w (.cells #[.int .i64 k, .string (mkL t), .int .i64 n, .int .i64 m, .slice a l c] 41)
  obtain ⟨W0, hW0⟩ : ∃ W0, w.alloc (.cells #[.int .i64 k, .string (mkL t), .int .i64 n, .int .i64 m, .slice a l c] 41) = W0 := ⟨_, rfl⟩
  rw [hW0] at b0 r0
  have zz := fun i => cell_of_row _ _ i _ _ _ r0
  have f0 := zz 0; have f1 := zz 1; have f2 := zz 2
  dsimp at f0 f1 f2
  have B0 := Lib.hid b0
  clear zz b0 r0
  go_enter Tryd.func71, Tryd.ntmps71
  go_wp2
  refine bodyPost_ret (v := .tuple #[.slice none 0 0, .bool false]) (by simp [results, Tryd.results71, go_sem]) rfl ?_
  exact ⟨⟨_, rfl, World.ownsRow_nil _ _ _ _⟩, B0.out⟩
end
end Go.Proofs.YtangpdaoacjinaaDoor
set_option linter.unusedVariables false
set_option linter.unusedSimpArgs false
namespace Go.Proofs.YtangpdaoacjinaaDoor
open Go.RowKit
set_option maxHeartbeats 8000000 in
set_option maxRecDepth 100000 in
theorem tsw_2 (t : List UInt8) (n m : Int) (a : Option Addr) (l c : Nat) (w : World) (hn : in64 n) (hm : in64 m) : Calls Tryd.prog 71 #[.agg #[.int .i64 2, .string (mkL t), .int .i64 n, .int .i64 m, .slice a l c]] w (SwP w (some [reW, decS n, decS m])) := by
  have b0 := below_alloc w (.cells #[.int .i64 2, .string (mkL t), .int .i64 n, .int .i64 m, .slice a l c] 41)
  have r0 := heap_alloc_new w (.cells #[.int .i64 2, .string (mkL t), .int .i64 n, .int .i64 m, .slice a l c] 41)
  obtain ⟨W0, hW0⟩ : ∃ W0, w.alloc (.cells #[.int .i64 2, .string (mkL t), .int .i64 n, .int .i64 m, .slice a l c] 41) = W0 := ⟨_, rfl⟩
  rw [hW0] at b0 r0
  have zz := fun i => cell_of_row _ _ i _ _ _ r0
  have f0 := zz 0; have f2 := zz 2; have f3 := zz 3
  dsimp at f0 f2 f3
  have B0 := Lib.hid b0
  have R0 := Lib.hid r0
  have D1 := Lib.hid (tdec_any n W0.drew hn.1 hn.2)
  have D2 := Lib.hid (fun w => tdec_any m w hm.1 hm.2)
  generalize decS n = dn at *
  generalize decS m = dm at *
  clear zz b0 r0 hn hm
  go_enter Tryd.func71, Tryd.ntmps71
  go_upto_region 7 with fail
  clear hW0 f0
  go_region_held3 (fun w' => w'.cell? ⟨w.heap.size, 2, none⟩ = some (.int .i64 n) ∧ w'.cell? ⟨w.heap.size, 3, none⟩ = some (.int .i64 m)) (first | exact ⟨f2, f3⟩ | exact ⟨f23, f33⟩ | exact ⟨f24, f34⟩ | exact ⟨(World.cell?_alloc_lt _ _ _ h4.out).trans f24, (World.cell?_alloc_lt _ _ _ h4.out).trans f34⟩ | go_keep)
    (first
      | (go_at_call 115
         with_reducible refine D1.out.mono ?_
         rintro e w3 ⟨rfl, hb3⟩
         have B3 := Lib.hid (seqB B0.out.drew hb3)
         have R3 := Lib.hid (blk_below (w := W0) R0.out (seqB (Below.refl _ _).drew hb3))
         have yy := fun i => cell_of_row _ _ i _ _ _ R3.out
         have f23 := yy 2
         have f33 := yy 3
         dsimp at f23 f33
         clear hb3 yy)
      | (go_at_call 115
         with_reducible refine (D2.out _).mono ?_
         rintro e w4 ⟨rfl, hb4⟩
         have B4 := Lib.hid (seqB B3.out hb4)
         have R4 := Lib.hid (blk_below R3.out hb4)
         have yy := fun i => cell_of_row _ _ i _ _ _ R4.out
         have f24 := yy 2
         have f34 := yy 3
         dsimp at f24 f34
         have h4 := Lib.hid (blk_lt R4.out)
         clear hb4 yy))
  all_goals
    go_wp2
    refine bodyPost_ret (v := .tuple #[.slice (some ⟨w4.heap.size, 0, none⟩) 3 3, .bool true]) (by simp [results, Tryd.results71, go_sem]) rfl ?_
    exact ⟨⟨_, rfl, owS_3 w4 w.heap.size reW dn dm B4.out.size⟩, seqB B4.out (below_alloc w4 _)⟩
end Go.Proofs.YtangpdaoacjinaaDoor
set_option linter.unusedVariables false
set_option linter.unusedSimpArgs false
namespace Go.Proofs.YtangpdaoacjinaaDoor
open Go.RowKit
def ofL (L : List (List UInt8)) (k : Nat) : List (List UInt8) := ofW :: (L.take k).map wdL
theorem ofL_succ (L : List (List UInt8)) (k : Nat) (h : k < L.length) : ofL L (k + 1) = ofL L k ++ [wdL (L.getD k [])] := by
  unfold ofL
  rw [List.take_succ_eq_append_getElem h, List.map_append, List.getD, List.getElem?_eq_getElem h]; rfl
theorem ofL_len (L : List (List UInt8)) (k : Nat) (h : k ≤ L.length) : (ofL L k).length = k + 1 := by
  unfold ofL; rw [List.length_cons, List.length_map, List.length_take]; omega
set_option maxHeartbeats 8000000 in
set_option maxRecDepth 100000 in
theorem tsw_3 (t : List UInt8) (n m : Int) (a : Option Addr) (l c : Nat) (w : World) (L : List (List UInt8)) (hL : L.length = l) (hl : l ≤ 100000) (hE : ∀ x, x ∈ L → x.length ≤ 300000) (hS : StI w a (L.map mkL)) :
    Calls Tryd.prog 71 #[.agg #[.int .i64 3, .string (mkL t), .int .i64 n, .int .i64 m, .slice a l c]] w (SwP w (some (ofW :: L.map wdL))) := by
  obtain ⟨i0, hi, hz0, hz1, hz2⟩ := info_parts infoTS
  have b0 := below_alloc w (.cells #[.int .i64 3, .string (mkL t), .int .i64 n, .int .i64 m, .slice a l c] 41)
  have r0 := heap_alloc_new w (.cells #[.int .i64 3, .string (mkL t), .int .i64 n, .int .i64 m, .slice a l c] 41)
  obtain ⟨W0, hW0⟩ : ∃ W0, w.alloc (.cells #[.int .i64 3, .string (mkL t), .int .i64 n, .int .i64 m, .slice a l c] 41) = W0 := ⟨_, rfl⟩
  rw [hW0] at b0 r0
  have o1 : owS (W0.alloc (.cells #[.string ⟨#[111, 102, 102, 101, 114]⟩] 9)) w.heap.size (.slice (some ⟨W0.heap.size, 0, none⟩) 1 1) (ofL L 0) := owS_1 W0 w.heap.size ofW b0.size
  have b1 := below_alloc W0 (.cells #[.string ⟨#[111, 102, 102, 101, 114]⟩] 9)
  have r1 := blk_below r0 b1
  have B1 := Lib.hid (seqB b0 b1)
  have O1 := Lib.hid o1
  have zz := fun i => cell_of_row _ _ i _ _ _ r0
  have f0 := zz 0
  have yy := fun i => cell_of_row _ _ i _ _ _ r1
  have f4 := yy 4
  dsimp at f0 f4
  have HL := Lib.hid hL
  have HE := Lib.hid hE
  have HS := Lib.hid hS
  obtain ⟨SP, hSP⟩ : ∃ SP, SwP w (some (ofW :: L.map wdL)) = SP := ⟨_, rfl⟩
  rw [hSP]
  have HSP := Lib.hid hSP
  clear zz yy b0 r0 o1 b1 r1 hL hE hS hSP
  go_enter Tryd.func71, Tryd.ntmps71
  go_upto_region 11 with fail
  obtain ⟨W1, hW1⟩ : ∃ W1, W0.alloc (.cells #[.string ⟨#[111, 102, 102, 101, 114]⟩] 9) = W1 := ⟨_, rfl⟩
  rw [hW1] at O1 B1
  clear f0 f4
  go_loopw [4, 33] (fun wv iv wr => ∃ (k : Nat) (a' : Option Addr) (c' : Nat), k ≤ l ∧ iv = .int .i64 (k : Int) ∧ wv = .slice a' (k + 1) c' ∧ Hid (owS wr w.heap.size (.slice a' (k + 1) c') (ofL L k)) ∧ Hid (Below w.heap.size w wr)) (fun _ iv _ => l - (intOf iv).toNat)
  case atStart => exact ⟨0, _, 1, Nat.zero_le _, rfl, rfl, by first | exact O1 | (rw [hW1]; exact O1), by first | exact B1 | (rw [hW1]; exact B1)⟩
  case round =>
    clear O1 B1 hW1 hW0
    obtain ⟨k, a', c', hk, rfl, rfl, HO, HB⟩ := hrel
    have NB := HB.out
    have hsz := NB.size
    have hown := HO.out
    unfold owS at hown
    have hcl := ofL_len L k (by rw [HL.out]; exact hk)
    rw [hcl] at hown
    by_cases hlt : k < l
    · have hk1 : (k : Int) < (l : Int) := by omega
      have hk0 : (0 : Int) ≤ k := by omega
      have hkL : k < L.length := by rw [HL.out]; exact hlt
      obtain ⟨b, off, rfl, hb0, d0⟩ := HS.out k (by rw [List.length_map]; exact hkL)
      have d := (NB.cell (p := ⟨b, off + k, none⟩) hb0).trans d0
      have hx : (L.map mkL).getD k ⟨#[]⟩ = mkL (L.getD k []) := by
        rw [List.getD, List.getElem?_map, List.getD, List.getElem?_eq_getElem hkL]; rfl
      rw [hx] at d
      have hxl : (L.getD k []).length ≤ 300000 := by
        rw [List.getD, List.getElem?_eq_getElem hkL]; exact HE.out _ (List.getElem_mem hkL)
      have HCS := Lib.hid (ofL_succ L k hkL)
      generalize L.getD k [] = x at *
      have TW := Lib.hid (fun w => tword_any x w (by omega))
      generalize ofL L k = Z at *
      generalize wdL x = wx at *
      clear hxl hx d0 hkL HO
      go_wp2_with (first
        | (go_at_call 13; refine (TW.out _).mono ?_; rintro e w3 ⟨rfl, hb3⟩; have hown3 : w3.ownsRow w.heap.size 9 1 (.slice a' (k + 1) c') (k + 1) _ := World.ownsRow.kept hown (row := none) ⟨hb3.os, hb3.tape, hb3.output, hb3.size, fun k hk _ => hb3.block k hk⟩ (by cases (Value.slice a' (k + 1) c').ownBlock <;> simp); have hb4 := seqB NB hb3; have hsz4 := hb4.size)
        | (at_builtin; refine wpList_append_own _ rfl _ _ 39 rfl w.heap.size 9 i0 _ 1 16 Tryd.underlying39 hi hz0 hz1 hz2 rfl (by decide) _ _ _ rfl (hown3.alloc _) ⟨w3.heap.size, 0, none⟩ 1 1 [.string (mkL wx)] rfl rfl ?g1 ?g2 ?g3 ?g4 ?g5 ?_))
      case g1 => intro j x hj; exact app_cells rfl hj
      case g2 => simp [Value.oneCell']
      case g3 => unfold maxLen; omega
      case g4 => omega
      case g5 => simp; omega
      intro v' w5 hown5 hgrow5 _
      have N5 := Lib.hid ((hb4.alloc hb4.size (.cells #[.string (mkL wx)] 9)).grown hgrow5 (by simp; omega) (fun j hj => (hown3.lt j hj).1))
      have O5 : owS w5 w.heap.size v' (ofL L (k + 1)) := by
        unfold owS
        rw [HCS.out, List.length_append, List.map_append, hcl]
        exact hown5
      obtain ⟨a5, c5, e5⟩ := owS_form O5 (n := k + 1 + 1) (by rw [ofL_len L (k + 1) (by rw [HL.out]; exact hlt)])
      subst e5
      have O5 := Lib.hid O5
      clear hown5 hgrow5 hown3 hown
      go_wp2
      go_roundw
      case rel => exact ⟨k + 1, a5, c5, by omega, by go_num, rfl, O5, N5⟩
      case measure => (simp [intOf]; try omega)
    · obtain rfl : k = l := by omega
      have hnn : ¬ (k : Int) < (k : Int) := by omega
      have e : ofL L k = ofW :: L.map wdL := by unfold ofL; rw [List.take_of_length_le (by rw [HL.out]; exact Nat.le_refl _)]
      rw [e] at HO
      clear hown e
      go_wp2
      rw [← HSP.out]
      exact ⟨⟨_, rfl, HO.out⟩, NB⟩
end Go.Proofs.YtangpdaoacjinaaDoor
