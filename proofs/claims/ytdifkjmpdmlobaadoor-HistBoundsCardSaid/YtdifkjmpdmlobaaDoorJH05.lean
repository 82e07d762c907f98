/-
  Joined: Hi11.
-/
import Derived.Test.YtdifkjmpdmlobaaDoorJH03
import Derived.Test.YtdifkjmpdmlobaaDoorJH04
set_option linter.unusedVariables false
set_option linter.unusedSimpArgs false
set_option maxRecDepth 100000
set_option linter.unusedVariables false
set_option linter.unusedSimpArgs false
namespace Go.Proofs.YtdifkjmpdmlobaaDoor
open Go.RowKit
def haA : List (Int × Int) := [(97, 0)]
def haB : List (Int × Int) := [(98, 2)]
def haX : List (Int × Int) := [(120, 0)]
def haC : List (Int × Int) := [(98, 0)]
def hE1 : List (List (Int × Int)) := [[(97, 3)]]
def hE2 : List (List (Int × Int)) := [[(97, 3)], [(98, 3)]]
def hE3 : List (List (Int × Int)) := [[(98, 3)], [(97, 3)]]
theorem ha_of : sOf 0 ⟨#[97]⟩ = haA ∧ (valsS ⟨#[97]⟩).length = 1 ∧ sOf 2 ⟨#[98]⟩ = haB ∧ (valsS ⟨#[98]⟩).length = 1 ∧ sOf 0 ⟨#[120]⟩ = haX ∧ (valsS ⟨#[120]⟩).length = 1 ∧ sOf 0 ⟨#[98]⟩ = haC := by decide +kernel
theorem ha_ad : adE 2 haA [] = hE1 ∧ adE 2 haB hE1 = hE2 ∧ adE 2 haA hE2 = hE3 ∧ bgV haC (hE3.getD 1 []) = false ∧ bgV haC (hE3.getD 0 []) = true ∧ sgC haA = true ∧ sgC haB = true := by decide +kernel
theorem ha_txt : sTxt [(97, 3)] = ⟨#[97]⟩ ∧ sTxt haX = ⟨#[120]⟩ := by decide +kernel
theorem hof_sg (u : Int) (s : ByteArray) (l : List (Int × Int)) (w : World) (hT : UT w) (hs : s.size ≤ 1000000) (hv : (valsS s).length = 1) (hl : sOf u s = l) (hn : l.length = 1) :
    Calls Tryd.prog 40 #[.int .i64 u, .string s] w fun e w' => ∃ g, e = .returned (.slice (some ⟨g, 0, none⟩) 1 1) ∧ w'.heap[g]? = some (.cells (sRow l) 89 (0, 0)) ∧ Below w.heap.size w w' := by
  have h := sof_any u s w hT hs (by omega)
  rw [hl, hn] at h
  refine h.mono ?_
  rintro e w' ⟨g, rfl, hg, hb, hB⟩
  exact ⟨g, rfl, hb, hB⟩
theorem sl_blk {w : World} {g n : Nat} {l : List (Int × Int)} (h : w.heap[g]? = some (.cells (sRow l) 89 (0, 0))) (hn : l.length = n) : SlS (fun _ => True) w (some ⟨g, 0, none⟩) l n := ⟨signs_of_blk h, by omega, fun e => (by cases e), fun _ _ _ => trivial⟩
/-- The history under way. -/
structure HA (w0 : World) (O : Nat) (E : List (List (Int × Int))) (hd : Nat) (T : List (Int × Int)) (w : World) : Prop where
  ex : ∃ B, HsS B O 2 9 E hd T w ∧ w0.heap.size ≤ B
  wb : Below w0.heap.size w0 w
section
variable {w0 w w' : World} {O hd : Nat} {E : List (List (Int × Int))} {T : List (Int × Int)}
theorem HA.below (h : HA w0 O E hd T w) (hb : Below w.heap.size w w') : HA w0 O E hd T w' := by
  obtain ⟨⟨B, h1, h2⟩, h3⟩ := h
  exact ⟨⟨B, h1.below hb, h2⟩, h3.trans (hb.mono h3.size)⟩
theorem HA.blk (h : HA w0 O E hd T w) : ∃ cs, w.heap[O]? = some (.cells cs 91 (0, 0)) := by
  obtain ⟨⟨B, h1, h2⟩, h3⟩ := h
  obtain ⟨_, _, _, h, _⟩ := h1.ex
  exact ⟨_, h⟩
theorem ha_add {E' : List (List (Int × Int))} (l : List (Int × Int)) (g : Nat) (h : HA w0 O E hd T w) (hl : l.length = 1) (hok : sgC l = true) (hE : E.length ≤ 2) (hz : ∀ x ∈ E, x.length ≤ 4096) (hg : w.heap[g]? = some (.cells (sRow l) 89 (0, 0))) (he : adE 2 l E = E') :
    Calls Tryd.prog 12 #[.pointer (some ⟨O, 0, none⟩), .slice (some ⟨g, 0, none⟩) 1 1] w fun e w' => e = .returned (.int .i64 0) ∧ HA w0 O E' E'.length [] w' := by
  obtain ⟨⟨B, h1, h2⟩, h3⟩ := h
  refine (hs_add_yes l (some ⟨g, 0, none⟩) 1 1 h1 hl (by omega) (by omega) (by omega) hok hE (by omega) hz (signs_of_blk hg) (fun ad e => Or.inr (by injection e with e; subst e; exact ⟨_, _, hg⟩))).mono ?_
  rintro e w' ⟨rfl, a, b⟩
  rw [he] at a
  exact ⟨rfl, ⟨B, a, h2⟩, h3.trans (b.mono h2)⟩
theorem ha_up (g : Nat) (h : HA w0 O hE3 2 [] w) (hg : w.heap[g]? = some (.cells (sRow haX) 89 (0, 0))) :
    Calls Tryd.prog 41 #[.pointer (some ⟨O, 0, none⟩), .slice (some ⟨g, 0, none⟩) 1 1] w fun e w' => ∃ b d, e = .returned (.tuple #[.slice b 1 d, .bool true]) ∧ OwS w' w.heap.size (.slice b 1 d) [(97, 3)] ∧ HA w0 O hE3 1 haX w' := by
  obtain ⟨⟨B, h1, h2⟩, h3⟩ := h
  refine (hs_up (k := 1) (m := 1) (q := 1) h1 rfl rfl (by omega) haX (some ⟨g, 0, none⟩) rfl (by omega) (sl_blk hg rfl) (by decide) rfl).mono ?_
  rintro e w' ⟨b, d, rfl, o, a, k⟩
  exact ⟨b, d, rfl, o, ⟨B, a, h2⟩, h3.trans (k.below (Nat.le_trans h2 h1.le) h3.size)⟩
theorem ha_down (h : HA w0 O hE3 1 haX w) :
    Calls Tryd.prog 43 #[.pointer (some ⟨O, 0, none⟩)] w fun e w' => ∃ b d, e = .returned (.tuple #[.slice b 1 d, .bool true]) ∧ OwS w' w.heap.size (.slice b 1 d) haX ∧ HA w0 O hE3 2 haX w' ∧ KpH O w w' := by
  obtain ⟨⟨B, h1, h2⟩, h3⟩ := h
  refine (hs_down (n := 2) (q := 1) h1 rfl rfl (by omega) rfl (by omega)).mono ?_
  rintro e w' ⟨b, d, rfl, o, a, k⟩
  exact ⟨b, d, rfl, o, ⟨⟨B, a, h2⟩, h3.trans (k.below (Nat.le_trans h2 h1.le) h3.size)⟩, k⟩
theorem ha_prefix (g : Nat) (h : HA w0 O hE3 hd T w) (hg : w.heap[g]? = some (.cells (sRow haC) 89 (0, 0))) :
    Calls Tryd.prog 42 #[.pointer (some ⟨O, 0, none⟩), .slice (some ⟨g, 0, none⟩) 1 1, .int .i64 9] w fun e w' => e = .returned (.int .i64 0) ∧ Below w.heap.size w w' := by
  obtain ⟨⟨B, h1, h2⟩, h3⟩ := h
  exact hs_prefix h1 rfl haC (some ⟨g, 0, none⟩) 1 1 rfl (by omega) (signs_of_blk hg) (by decide) ha_ad.2.2.2.1 ha_ad.2.2.2.2.1
theorem ha_all (h : HA w0 O hE3 hd T w) : Calls Tryd.prog 13 #[.pointer (some ⟨O, 0, none⟩)] w fun e w' => ∃ b, e = .returned (.slice b 2 2) ∧ SgsK (fun k => k < w'.heap.size) w' b hE3 ∧ Below w.heap.size w w' := by
  obtain ⟨⟨B, h1, h2⟩, h3⟩ := h
  refine (hs_all (t := 2) h1 rfl (by omega) (by decide)).mono ?_
  rintro e w' ⟨b, rfl, s, hb⟩
  exact ⟨b, rfl, s.mono (fun k hk => hk.2), hb⟩
theorem ha_len (h : HA w0 O hE3 hd T w) : Calls Tryd.prog 45 #[.pointer (some ⟨O, 0, none⟩)] w fun e w' => e = .returned (.int .i64 2) ∧ w = w' := by
  obtain ⟨⟨B, h1, h2⟩, h3⟩ := h
  exact hs_len h1 rfl
theorem HsL.below {B O M N n : Nat} {w w' : World} (h : HsL B O M N n w) (hb : Below w.heap.size w w') : HsL B O M N n w' := by
  obtain ⟨E, hd, T, h1, h2⟩ := h
  exact ⟨E, hd, T, h1.below hb, h2⟩
theorem ha_len1 {B N M : Nat} (h : HsL B O M N 1 w) : Calls Tryd.prog 45 #[.pointer (some ⟨O, 0, none⟩)] w fun e w' => e = .returned (.int .i64 1) ∧ w = w' := by
  obtain ⟨E, hd, T, h1, h2⟩ := h
  exact hs_len h1 h2
theorem ha_hand (h : HA w0 O E 2 T w) : Calls Tryd.prog 47 #[.pointer (some ⟨O, 0, none⟩)] w fun e w' => e = .returned (.int .i64 2) ∧ w = w' := by
  obtain ⟨⟨B, h1, h2⟩, h3⟩ := h
  exact hs_hand h1
theorem htext1 (l : List (Int × Int)) (s : ByteArray) (b : Option Addr) (d : Nat) (hl : l.length = 1) (hs : sTxt l = s) (w : World) (h : Signs w b l) : Calls Tryd.prog 46 #[.slice b 1 d] w fun e w' => e = .returned (.string s) ∧ Below w.heap.size w w' := by
  have h := stext_any l b d w (by omega) h
  rw [hs, hl] at h
  exact h
end
set_option maxHeartbeats 8000000 in
theorem hawake_any (w : World) (hT : UT w) : Calls Tryd.prog 10 #[] w fun e w' => e = .returned (.bool true) ∧ Below w.heap.size w w' := by
  have HU := Lib.hid fun w' (hb : Below w.heap.size w w') => hT.below hb
  have NW := Lib.hid (hs_new 2 9 2 9 w rfl rfl (by omega) (by omega) (by omega) (by omega))
  have F := ha_of
  have OA := Lib.hid fun w hT => hof_sg 0 _ _ w hT (by decide) F.2.1 F.1 rfl
  have OB := Lib.hid fun w hT => hof_sg 2 _ _ w hT (by decide) F.2.2.2.1 F.2.2.1 rfl
  have OX := Lib.hid fun w hT => hof_sg 0 _ _ w hT (by decide) F.2.2.2.2.2.1 F.2.2.2.2.1 rfl
  have OC := Lib.hid fun w hT => hof_sg 0 _ _ w hT (by decide) F.2.2.2.1 F.2.2.2.2.2.2 rfl
  clear F hT
  go_enter Tryd.func10, Tryd.ntmps10
  go_upto_region 4 with (go_at_call 11; refine NW.out.mono ?_; rintro e w1 ⟨O, rfl, ho, hb⟩; have Pa1 : Hid (HA w O [] 0 [] w1) := Lib.hid ⟨⟨_, ho, Nat.le_refl _⟩, hb⟩; clear ho hb NW)
  go_upto_region 5 with (first
    | (go_at_call 40; (with_reducible refine (OA.out _ (HU.out _ Pa1.out.wb)).mono ?_); rintro e w2 ⟨g2, rfl, hg, hb⟩; have Pa2 := Lib.hid (Pa1.out.below hb); have G2 := Lib.hid hg; clear hg hb Pa1)
    | (go_at_call 12; refine (ha_add haA g2 Pa2.out rfl ha_ad.2.2.2.2.2.1 (by decide) (by decide) G2.out ha_ad.1).mono ?_; rintro e w3 ⟨rfl, ha⟩; have Pa3 := Lib.hid ha; clear ha Pa2 G2))
  go_upto_region 6 with (first
    | (go_at_call 40; (with_reducible refine (OB.out _ (HU.out _ Pa3.out.wb)).mono ?_); rintro e w2 ⟨g2, rfl, hg, hb⟩; have Pa2 := Lib.hid (Pa3.out.below hb); have G2 := Lib.hid hg; clear hg hb Pa3)
    | (go_at_call 12; refine (ha_add haB g2 Pa2.out rfl ha_ad.2.2.2.2.2.2 (by decide) (by decide) G2.out ha_ad.2.1).mono ?_; rintro e w4 ⟨rfl, ha⟩; have Pa4 := Lib.hid ha; clear ha Pa2 G2))
  go_upto_region 7 with (first
    | (go_at_call 40; (with_reducible refine (OA.out _ (HU.out _ Pa4.out.wb)).mono ?_); rintro e w2 ⟨g2, rfl, hg, hb⟩; have Pa2 := Lib.hid (Pa4.out.below hb); have G2 := Lib.hid hg; clear hg hb Pa4)
    | (go_at_call 12; refine (ha_add haA g2 Pa2.out rfl ha_ad.2.2.2.2.2.1 (by decide) (by decide) G2.out ha_ad.2.2.1).mono ?_; rintro e w5 ⟨rfl, ha⟩; have Pa5 := Lib.hid ha; clear ha Pa2 G2))
  go_upto_region 8 with (first
    | (go_at_call 40; (with_reducible refine (OX.out _ (HU.out _ Pa5.out.wb)).mono ?_); rintro e w2 ⟨g2, rfl, hg, hb⟩; have Pa2 := Lib.hid (Pa5.out.below hb); have G2 := Lib.hid hg; clear hg hb Pa5)
    | (go_at_call 41; refine (ha_up g2 Pa2.out G2.out).mono ?_; rintro e w6 ⟨b6, d6, rfl, ho, ha⟩; have Pa6 := Lib.hid ha; have S6 := Lib.hid (ho.mono (Nat.zero_le _)); clear ha ho Pa2 G2))
  go_upto_region 9 with (first
    | (go_at_call 40; (with_reducible refine (OC.out _ (HU.out _ Pa6.out.wb)).mono ?_); rintro e w2 ⟨g2, rfl, hg, hb⟩; have Pa2 := Lib.hid (Pa6.out.below hb); have G2 := Lib.hid hg; have S2 := Lib.hid (ows_keep S6.out hb); clear hg hb Pa6 S6)
    | (go_at_call 42; refine (ha_prefix g2 Pa2.out G2.out).mono ?_; rintro e w7 ⟨rfl, hb⟩; have Pa7 := Lib.hid (Pa2.out.below hb); have S7 := Lib.hid (ows_keep S2.out hb); clear hb Pa2 S2 G2))
  go_upto_region 10 with (go_at_call 43; refine (ha_down Pa7.out).mono ?_; rintro e w8 ⟨b8, d8, rfl, ho, ha, hk⟩; have Pa8 := Lib.hid ha; have T8 := Lib.hid (ho.mono (Nat.zero_le _)); obtain ⟨cs, hO⟩ := Pa7.out.blk; have S8 := Lib.hid (ows_kpH S7.out hO hk); clear ha ho hk hO Pa7 S7)
  go_upto_region 11 with (first
    | (go_at_call 13; refine (ha_all Pa8.out).mono ?_; rintro e w9 ⟨b9, rfl, hs, hb⟩; have Pa9 := Lib.hid (Pa8.out.below hb); have S9 := Lib.hid (ows_keep S8.out hb); have T9 := Lib.hid (ows_keep T8.out hb); have G9 := Lib.hid hs; clear hs hb Pa8 S8 T8)
    | (go_at_call 44; refine (hs_of hE3 b9 2 2 _ rfl (by omega) (by omega) G9.out (by decide +kernel)).mono ?_; rintro e wa ⟨Oa, rfl, hl, hb⟩; have Paa := Lib.hid (Pa9.out.below hb); have Sa := Lib.hid (ows_keep S9.out hb); have Ta := Lib.hid (ows_keep T9.out hb); have La := Lib.hid hl; clear hl hb Pa9 S9 T9 G9))
  have TA := Lib.hid fun w h => htext1 [(97, 3)] _ b6 d6 rfl ha_txt.1 w h
  have TX := Lib.hid fun w h => htext1 haX _ b8 d8 rfl ha_txt.2 w h
  have LE := Lib.hid fun w' (h : HA w O hE3 2 haX w') => ha_len h
  have HN := Lib.hid fun w' (h : HA w O hE3 2 haX w') => ha_hand h
  have AL := Lib.hid fun w' (h : HA w O hE3 2 haX w') => ha_all h
  have L1 := Lib.hid fun B w' (h : HsL B Oa 1 1 1 w') => ha_len1 h
  go_wp2_with (first
    | (go_at_call 45; (with_reducible refine (LE.out _ Paa.out).mono ?_); rintro e wb ⟨rfl, rfl⟩; clear LE)
    | (go_at_call 46; (with_reducible refine (TA.out _ (ows_slS Sa.out).s).mono ?_); rintro e wb ⟨rfl, hb⟩; have Pab := Lib.hid (Paa.out.below hb); have Sb := Lib.hid (ows_keep Sa.out hb); have Tb := Lib.hid (ows_keep Ta.out hb); have Lb := Lib.hid (La.out.below hb); obtain ⟨gy, oy, hay, _, _, yy⟩ := (ows_slS Sb.out).s 0 (by decide); subst hay; replace yy : wb.cell? ⟨gy, oy + 1, none⟩ = some (.int .i64 3) := yy; clear hb TA Sa Ta La Paa Sb)
    | (go_at_call 46; (with_reducible refine (TX.out _ (ows_slS Tb.out).s).mono ?_); rintro e wc ⟨rfl, hb⟩; have Pac := Lib.hid (Pab.out.below hb); have Lc := Lib.hid (Lb.out.below hb); clear hb TX Tb Lb Pab yy)
    | (go_at_call 47; (with_reducible refine (HN.out _ Pac.out).mono ?_); rintro e wd ⟨rfl, rfl⟩; clear HN)
    | (go_at_call 45; (with_reducible refine (L1.out _ _ Lc.out).mono ?_); rintro e wd ⟨rfl, rfl⟩; clear L1)
    | (go_at_call 13; (with_reducible refine (AL.out _ Pac.out).mono ?_); rintro e we ⟨be, rfl, _, hb⟩; have Pae := Lib.hid (Pac.out.below hb); clear hb AL))
  go_ret
  exact ⟨rfl, Pae.out.wb⟩
end Go.Proofs.YtdifkjmpdmlobaaDoor
