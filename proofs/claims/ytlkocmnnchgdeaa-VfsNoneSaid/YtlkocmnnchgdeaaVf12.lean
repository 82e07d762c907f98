/-
  vfs: Names; no disk's rest; the first law.
-/
import Derived.Test.YtlkocmnnchgdeaaVf11
set_option linter.unusedVariables false
set_option linter.unusedSimpArgs false
namespace Go.Proofs.Ytlkocmnnchgdeaa
set_option maxRecDepth 100000
open Go.RowKit
section
variable {B P : Nat} {D : VD} {ops : Int} {down : Bool} {g2 g3 : Value} {w w' : World}
theorem vkeys_len (D0 : DataW Unit) : (strKeys D0).length = Maps.size D0 := by
  cases D0 <;> simp [strKeys, Maps.size]
theorem vnames_ok (h : DkS B P D ops false w) (hn : D.n2 ≤ 1000) : Calls Try.prog 14 #[.pointer (some ⟨P, 0, none⟩)] w fun e w' => (∃ a c, e = .returned (.slice a D.n2 c)) ∧ Below w.heap.size w w' := by
  have UP := Lib.hid (vup_ok h)
  obtain ⟨_, y1, _⟩ := h.cells
  obtain ⟨D0, o1, o2, _⟩ := h.m2.ex
  have KY := Lib.hid (callsIn_wide.1 (Try.maps_Keys_24 (some D.b2) w))
  have SO := Lib.hid (callsIn_wide.1 (Try.slices_Sorted_keys_23_24 D.b2 D.n2 D0 fR w o1 (by rw [o2]; unfold maxLen; omega) (by rw [o2]; omega)))
  have HB := Lib.hid (below_alloc w (.cells #[.map (some D.b2)] 38))
  have HS : Hid (Maps.size D0 = D.n2) := Lib.hid o2
  clear h o1 o2 hn
  go_enter Try.func14, Try.ntmps14
  go_wp2_with (first
    | (go_at_call 15; refine UP.out.mono ?_; rintro e w1 ⟨rfl, h1⟩; subst h1)
    | (go_at_call 24; refine KY.out.mono ?_; rintro e w2 ⟨rfl, rfl⟩)
    | (go_at_call 23; refine SO.out.mono ?_; rintro e w3 ⟨v, ss, rfl, hp, ho, _, hb⟩; have B3 := Lib.hid hb; have HP := Lib.hid hp; have HO := Lib.hid ho; clear hb hp ho))
  go_ret
  obtain ⟨a, c, rfl⟩ := own_form HO.out
  refine ⟨⟨a, c, ?_⟩, seqB HB.out B3.out⟩
  have e : ss.length = D.n2 := by rw [HP.out.length_eq, vkeys_len, HS.out]
  rw [← e]
  rfl
end
/-- What the law lays for New: one byte, one crash. -/
theorem one_crash {w W : World} (hW : (w.alloc (.cells #[.int .u8 1] 5)).alloc (.cells #[.int .i64 3, .slice (some ⟨w.heap.size, 0, none⟩) 1 1] 30) = W) :
    Below w.heap.size w W ∧ U8sIn W (some ⟨w.heap.size, 0, none⟩) [1] ∧ W.heap[w.heap.size + 1]? = some (.cells #[.int .i64 3, .slice (some ⟨w.heap.size, 0, none⟩) 1 1] 30 (0, 0)) := by
  subst hW
  have b1 := below_alloc w (.cells #[.int .u8 1] 5)
  have b2 := below_alloc (w.alloc (.cells #[.int .u8 1] 5)) (.cells #[.int .i64 3, .slice (some ⟨w.heap.size, 0, none⟩) 1 1] 30)
  have r1 := heap_alloc_new w (.cells #[.int .u8 1] 5)
  have r2 := heap_alloc_new (w.alloc (.cells #[.int .u8 1] 5)) (.cells #[.int .i64 3, .slice (some ⟨w.heap.size, 0, none⟩) 1 1] 30)
  have s1 : (w.alloc (.cells #[.int .u8 1] 5)).heap.size = w.heap.size + 1 := by simp
  rw [s1] at r2
  refine ⟨seqB b1 b2, ?_, r2⟩
  have r3 := vbelow r1 b2
  intro i hi
  obtain rfl : i = 0 := by simp at hi; omega
  exact ⟨w.heap.size, 0, rfl, vlt r3, cell_of_row _ _ 0 _ _ _ r3, by decide, by decide⟩
theorem cutOk_aw : CutOk 1 ([] ++ [((0 : Int), (⟨#[98]⟩ : ByteArray), (⟨#[]⟩ : ByteArray), (⟨#[121, 122]⟩ : ByteArray))] ++ [((1 : Int), (⟨#[98]⟩ : ByteArray), (⟨#[97]⟩ : ByteArray), (⟨#[]⟩ : ByteArray))]) := by
  intro i hi
  match i, hi with
  | 0, _ => exact ⟨by decide, by decide, Or.inl rfl⟩
  | 1, _ => exact ⟨by decide, by decide, Or.inr ⟨rfl, by decide⟩⟩
abbrev nA : ByteArray := ⟨#[97]⟩
abbrev nB : ByteArray := ⟨#[98]⟩
abbrev nE : ByteArray := ⟨#[]⟩
section
variable {B P b1 b2 kn kc : Nat} {cv : Value} {ka : Option Addr} {K : List Int} {w : World} {s t : ByteArray} {v : Value}
def vS0 (b1 b2 : Nat) (cv : Value) (ka : Option Addr) (kn kc : Nat) (K : List Int) : VD := ⟨b1, b2, fun _ => none, fun _ => none, 0, 0, [], .slice none 0 0, cv, ka, kn, kc, K⟩
def vS1 (b1 b2 : Nat) (cv : Value) (ka : Option Addr) (kn kc : Nat) (K : List Int) (s : ByteArray) (v : Value) : VD := ⟨b1, b2, fun _ => none, fput (fun _ => none) [97] s, 0, 1, [(0, nA, nE, s)], v, cv, ka, kn, kc, K⟩
def vS2 (b1 b2 : Nat) (cv : Value) (ka : Option Addr) (kn kc : Nat) (K : List Int) (s : ByteArray) (v : Value) : VD := ⟨b1, b2, fput (fun _ => none) [97] s, fput (fun _ => none) [97] s, 1, 1, [], v, cv, ka, kn, kc, K⟩
def vS3 (b1 b2 : Nat) (cv : Value) (ka : Option Addr) (kn kc : Nat) (K : List Int) (s t : ByteArray) (v : Value) : VD := ⟨b1, b2, fput (fun _ => none) [97] s, fput (fput (fun _ => none) [97] s) [98] t, 1, 2, [(0, nB, nE, t)], v, cv, ka, kn, kc, K⟩
theorem vst1 (h : DkS B P (vS0 b1 b2 cv ka kn kc K) 0 false w) (hs : s.size ≤ 1000) : Calls Try.prog 8 #[.pointer (some ⟨P, 0, none⟩), .string nA, .string s] w fun e w' => e = .returned (.int .i64 0) ∧ (∃ v, DkS B P (vS1 b1 b2 cv ka kn kc K s v) 1 false w') ∧ Below B w w' :=
  vwrite_ok h (by decide) (by decide) (by decide) (Nat.zero_le _) (by decide) (by kernel_rfl) (by omega) (Nat.zero_le _)
theorem vst2 (h : DkS B P (vS1 b1 b2 cv ka kn kc K s v) 1 false w) : Calls Try.prog 9 #[.pointer (some ⟨P, 0, none⟩)] w fun e w' => e = .returned (.int .i64 0) ∧ (∃ v, DkS B P (vS2 b1 b2 cv ka kn kc K s v) 2 false w') ∧ Below B w w' :=
  vsync_ok h (by decide) (by decide) (by decide) rfl (by decide) (Nat.zero_le _)
theorem vst3 (h : DkS B P (vS2 b1 b2 cv ka kn kc K s v) 2 false w) (ht : t.size ≤ 1000) : Calls Try.prog 8 #[.pointer (some ⟨P, 0, none⟩), .string nB, .string t] w fun e w' => e = .returned (.int .i64 0) ∧ (∃ v, DkS B P (vS3 b1 b2 cv ka kn kc K s t v) 3 false w') ∧ Below B w w' :=
  vwrite_ok h (by decide) (by decide) (by decide) (Nat.zero_le _) (by decide) (by kernel_rfl) (by omega) (show 1 ≤ 1000 by decide)
def vS4 (b1 b : Nat) (cv : Value) (ka : Option Addr) (kc : Nat) (v : Value) : VD := ⟨b1, b, fput (fput (fun _ => none) [97] ⟨#[120]⟩) [98] ⟨#[121]⟩, fput (fput (fun _ => none) [97] ⟨#[120]⟩) [98] ⟨#[121]⟩, 2, 2, [], v, cv, ka, 1, kc, [1]⟩
theorem vpre_1 : vpre 1 ⟨#[121, 122]⟩ = ⟨#[121]⟩ := by kernel_rfl
theorem vst4 {v0 : Value} (h : DkS B P (vS3 b1 b2 cv ka 1 kc [1] ⟨#[120]⟩ ⟨#[121, 122]⟩ v0) 3 false w) : Calls Try.prog 10 #[.pointer (some ⟨P, 0, none⟩), .string nB, .string nA] w fun e w' => e = .returned (.int .i64 9) ∧ (∃ b v, DkS B P (vS4 b1 b cv ka kc v) 4 true w') ∧ Below B w w' := by
  refine (vrename_cut (k := 1) (s := ⟨#[121, 122]⟩) h (show 1 ≤ 5 by decide) (show 1 ≤ 100 by decide) (fun i _ _ => Nat.mod_one i) (by rfl) (by decide) cutOk_aw (by decide) (by kernel_rfl) (by kernel_rfl) (by kernel_rfl) (by rfl)).mono ?_
  rintro e w' ⟨he, ⟨b, v, u, hD⟩, hb⟩
  refine ⟨he, ⟨b, v, ?_⟩, hb⟩
  have e1 : VD.off ((vS3 b1 b2 cv ka 1 kc [1] ⟨#[120]⟩ ⟨#[121, 122]⟩ v0).add u (1, nB, nA, nE)) 1 b v = vS4 b1 b cv ka kc v := by
    unfold vS4
    rw [← vpre_1]
    rfl
  exact e1 ▸ hD
theorem vnames_4 (h : DkS B P (vS4 b1 b2 cv ka kc v) 4 false w) : Calls Try.prog 14 #[.pointer (some ⟨P, 0, none⟩)] w fun e w' => (∃ a c, e = .returned (.slice a 2 c)) ∧ Below w.heap.size w w' := vnames_ok h (show 2 ≤ 1000 by decide)
end
set_option maxHeartbeats 8000000 in
theorem vawake (w : World) : Calls Try.prog 4 #[] w fun e w' => e = .returned (.bool true) ∧ Below w.heap.size w w' := by
  obtain ⟨W, hW⟩ : ∃ W, (w.alloc (.cells #[.int .u8 1] 5)).alloc (.cells #[.int .i64 3, .slice (some ⟨w.heap.size, 0, none⟩) 1 1] 30) = W := ⟨_, rfl⟩
  obtain ⟨bW, hu, r2⟩ := one_crash hW
  have NW := Lib.hid (vnew_any [1] (some ⟨w.heap.size, 0, none⟩) 1 1 1 (w.heap.size + 1) W rfl (by decide) hu r2)
  have BW := Lib.hid bW
  obtain ⟨B, hB⟩ : ∃ B, W.heap.size = B := ⟨_, rfl⟩
  rw [hB] at NW
  have HB := Lib.hid hB
  clear bW hu r2 hB
  go_enter Try.func4, Try.ntmps4
  go_wp2_with (first
    | (go_at_call 7; (try rw [hW]); refine NW.out.mono ?_; rintro e w1 ⟨P, b1, b2, cv, ka, kc, rfl, hD, hb⟩; have H0 := Lib.hid (show DkS B P (vS0 b1 b2 cv ka 1 kc [1]) 0 false w1 from hD); have B0 := Lib.hid hb; clear hD hb)
    | (go_at_call 8; refine (vst3 H2.out (by decide)).mono ?_; rintro e w4 ⟨rfl, ⟨v4, hD⟩, hb⟩; have H3 := Lib.hid hD; have B3 := Lib.hid (B2.out.trans hb); clear hD hb)
    | (go_at_call 8; refine (vst1 H0.out (by decide)).mono ?_; rintro e w2 ⟨rfl, ⟨v2, hD⟩, hb⟩; have H1 := Lib.hid hD; have B1 := Lib.hid (B0.out.trans hb); clear hD hb)
    | (go_at_call 9; refine (vst2 H1.out).mono ?_; rintro e w3 ⟨rfl, ⟨v3, hD⟩, hb⟩; have H2 := Lib.hid hD; have B2 := Lib.hid (B1.out.trans hb); clear hD hb)
    | (go_at_call 10; refine (vst4 H3.out).mono ?_; rintro e w5 ⟨rfl, ⟨b4, v5, hD⟩, hb⟩; have H4 := Lib.hid hD; have B4 := Lib.hid (B3.out.trans hb); clear hD hb)
    | (go_at_call 12; refine (vdown_any H4.out).mono ?_; rintro e w6 ⟨rfl, h6⟩; subst h6)
    | (go_at_call 5; refine (vpower_any H4.out).mono ?_; rintro e w7 ⟨rfl, hD, hb⟩; have H5 := Lib.hid hD; have B5 := Lib.hid (B4.out.trans hb); clear hD hb)
    | (go_at_call 6; refine (vread_yes (s := ⟨#[121]⟩) H6.out (by decide) (by rfl)).mono ?_; rintro e w8 ⟨rfl, hb⟩; have H7 := Lib.hid (H6.out.below hb); have B7 := Lib.hid (B6.out.trans (hb.mono H6.out.hB)); clear hb)
    | (go_at_call 6; refine (vread_yes (s := ⟨#[120]⟩) H5.out (by decide) (by rfl)).mono ?_; rintro e w8 ⟨rfl, hb⟩; have H6 := Lib.hid (H5.out.below hb); have B6 := Lib.hid (B5.out.trans (hb.mono H5.out.hB)); clear hb)
    | (go_at_call 13; refine (vops_any H7.out).mono ?_; rintro e w9 ⟨rfl, h6⟩; subst h6)
    | (go_at_call 14; refine (vnames_4 H7.out).mono ?_; rintro e w9 ⟨⟨a9, c9, rfl⟩, hb⟩; have H8 := Lib.hid (H7.out.below hb); have B8 := Lib.hid (B7.out.trans (hb.mono H7.out.hB)); clear hb)
    | (go_at_call 11; refine (vremove_none H8.out (by decide) (by kernel_rfl) (by rfl)).mono ?_; rintro e w9 ⟨rfl, hb⟩; have B9 := Lib.hid (B8.out.trans (hb.mono H8.out.hB)); clear hb))
  go_ret
  exact ⟨rfl, seqB BW.out (by rw [HB.out]; exact B9.out)⟩
end Go.Proofs.Ytlkocmnnchgdeaa
