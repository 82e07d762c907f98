/-
  Joined: Bd10 Bd11 Bd14 Bd13 Bd15 Bd16 Bd17 Bd18.
-/
import Derived.Test.YtgnhnalaakgamaaDoorJB08
import Derived.Test.YtgnhnalaakgamaaDoorJB11
import Derived.Test.YtgnhnalaakgamaaDoorJB12
import Derived.Test.YtgnhnalaakgamaaDoorJB13
import Derived.BigQuiet
import Derived.WalkMore
set_option linter.unusedVariables false
set_option linter.unusedSimpArgs false
set_option maxRecDepth 100000
set_option linter.unusedVariables false
set_option linter.unusedSimpArgs false
namespace Go.Proofs.YtgnhnalaakgamaaDoor
open Go.RowKit
/-- Whether a key may be bound. -/
def mbB (k : Ky) : Bool := !(k.1 == 1) && (!(k.1 == 15) && keyB k)
theorem bmay_t (k : Ky) (w : World) (hK : KT w) (nm : ByteArray) (b : Bool) (h1 : (if mbB k then mkS (nmR k) else ⟨#[]⟩) = nm) (h2 : mbB k = b) : Calls Tryd.prog 18 #[(.agg #[.int .i64 k.1, .int .i64 k.2.1, .string k.2.2.1, .bool k.2.2.2])] w fun e w' => e = .returned (.tuple #[.string nm, .bool b]) ∧ Below w.heap.size w w' := by
  subst h1; subst h2
  by_cases h : k.1 = 1 ∨ k.1 = 15
  · have hm : mbB k = false := by
      unfold mbB
      rcases h with h | h <;> rw [h]
      · rfl
      · exact Bool.and_false _
    rw [hm]
    exact bmay_no k w h
  · have e1 : ¬ k.1 = 1 := fun e => h (.inl e)
    have e15 : ¬ k.1 = 15 := fun e => h (.inr e)
    have hm : mbB k = keyB k := by
      have f1 : (k.1 == 1) = false := by rw [beq_eq_false_iff_ne]; exact e1
      have f2 : (k.1 == 15) = false := by rw [beq_eq_false_iff_ne]; exact e15
      unfold mbB; rw [f1, f2]; rfl
    refine (bmay_yes k w hK e1 e15).mono ?_
    rintro e w' ⟨rfl, hb⟩
    refine ⟨?_, hb⟩
    rw [hm]
    cases hk : keyB k with
    | false => rw [ckE_no hk]; unfold nmR; rw [hk]; rfl
    | true => rw [ckE_yes hk]; rfl
/-- Whether a command may be bound. -/
def cmdB (c : Int) : Bool := decide (0 ≤ c ∧ c ≤ 41) && (!(c == 1) && !(c == 38))
/-- What Bind answers: the error. -/
def bdE (k : Ky) (c : Int) : Int := if mbB k then (if cmdB c then 0 else 3) else 2
theorem bd_box {w : World} {g : Nat} {B : Nat} {w0 : World} (hb : Below B w0 w) (hg : B ≤ g) (u : Value) : Below B w0 (w.setCell ⟨g, 0, none⟩ u) :=
  ⟨hb.os, hb.tape, hb.output, by have := hb.size; simpa [World.setCell] using this, fun k hk => (Below.heap_setCell w ⟨g, 0, none⟩ u k (by show k ≠ g; omega)).trans (hb.block k hk)⟩
/-- The start of Bind: its three boxes. -/
theorem bd_start (v : Value) (k : Ky) (w : World) : ∃ W, ((w.alloc (.cells #[v] 25)).alloc (.cells #[.int .i64 k.1, .int .i64 k.2.1, .string k.2.2.1, .bool k.2.2.2] 34)).alloc (.cells #[.slice none 0 0] 25) = W ∧ Below w.heap.size w W ∧ W.heap.size = w.heap.size + 3 ∧ W.heap[w.heap.size]? = some (.cells #[v] 25 (0, 0)) ∧ W.heap[w.heap.size + 1]? = some (.cells #[.int .i64 k.1, .int .i64 k.2.1, .string k.2.2.1, .bool k.2.2.2] 34 (0, 0)) ∧ W.heap[w.heap.size + 1 + 1]? = some (.cells #[.slice none 0 0] 25 (0, 0)) := by
  have b1 := below_alloc w (.cells #[v] 25)
  have r1 := heap_alloc_new w (.cells #[v] 25)
  have s1 : (w.alloc (.cells #[v] 25)).heap.size = w.heap.size + 1 := by simp
  obtain ⟨W1, hW1⟩ : ∃ W1, w.alloc (.cells #[v] 25) = W1 := ⟨_, rfl⟩
  rw [hW1] at b1 r1 s1 ⊢
  have b2 := below_alloc W1 (.cells #[.int .i64 k.1, .int .i64 k.2.1, .string k.2.2.1, .bool k.2.2.2] 34)
  have r2 := heap_alloc_new W1 (.cells #[.int .i64 k.1, .int .i64 k.2.1, .string k.2.2.1, .bool k.2.2.2] 34)
  have s2 : (W1.alloc (.cells #[.int .i64 k.1, .int .i64 k.2.1, .string k.2.2.1, .bool k.2.2.2] 34)).heap.size = w.heap.size + 1 + 1 := by simp [s1]
  obtain ⟨W2, hW2⟩ : ∃ W2, W1.alloc (.cells #[.int .i64 k.1, .int .i64 k.2.1, .string k.2.2.1, .bool k.2.2.2] 34) = W2 := ⟨_, rfl⟩
  rw [hW2] at b2 r2 s2 ⊢
  have b3 := below_alloc W2 (.cells #[.slice none 0 0] 25)
  have r3 := heap_alloc_new W2 (.cells #[.slice none 0 0] 25)
  have s3 : (W2.alloc (.cells #[.slice none 0 0] 25)).heap.size = w.heap.size + 3 := by simp [s2]
  rw [s1] at r2
  rw [s2] at r3
  exact ⟨_, rfl, seqB (seqB b1 b2) b3, s3, blk_below (blk_below r1 b2) b3, blk_below r2 b3, r3⟩
theorem bd_start2 (v : Value) (k : Ky) (w : World) : ∃ W, ((w.alloc (.cells #[v] 25)).alloc (.cells #[.int .i64 k.1, .int .i64 k.2.1, .string k.2.2.1, .bool k.2.2.2] 34)) = W ∧ Below w.heap.size w W ∧ W.heap.size = w.heap.size + 1 + 1 ∧ W.heap[w.heap.size]? = some (.cells #[v] 25 (0, 0)) ∧ W.heap[w.heap.size + 1]? = some (.cells #[.int .i64 k.1, .int .i64 k.2.1, .string k.2.2.1, .bool k.2.2.2] 34 (0, 0)) ∧ True := by
  have b1 := below_alloc w (.cells #[v] 25)
  have r1 := heap_alloc_new w (.cells #[v] 25)
  have s1 : (w.alloc (.cells #[v] 25)).heap.size = w.heap.size + 1 := by simp
  obtain ⟨W1, hW1⟩ : ∃ W1, w.alloc (.cells #[v] 25) = W1 := ⟨_, rfl⟩
  rw [hW1] at b1 r1 s1 ⊢
  have b2 := below_alloc W1 (.cells #[.int .i64 k.1, .int .i64 k.2.1, .string k.2.2.1, .bool k.2.2.2] 34)
  have r2 := heap_alloc_new W1 (.cells #[.int .i64 k.1, .int .i64 k.2.1, .string k.2.2.1, .bool k.2.2.2] 34)
  have s2 : (W1.alloc (.cells #[.int .i64 k.1, .int .i64 k.2.1, .string k.2.2.1, .bool k.2.2.2] 34)).heap.size = w.heap.size + 1 + 1 := by simp [s1]
  rw [s1] at r2
  exact ⟨_, rfl, seqB b1 b2, s2, blk_below r1 b2, r2, trivial⟩
set_option maxRecDepth 100000 in
set_option maxHeartbeats 1000000 in
theorem bbind_arg (v : Value) (k : Ky) (c : Int) (w : World) (hK : KT w) (h : mbB k = false) :
    Calls Tryd.prog 9 #[.agg #[v], (.agg #[.int .i64 k.1, .int .i64 k.2.1, .string k.2.2.1, .bool k.2.2.2]), .int .i64 c] w fun e w' => e = .returned (.tuple #[.agg #[.slice none 0 0], .int .i64 2]) ∧ Below w.heap.size w w' := by
  obtain ⟨W, hW, b, hs, r1, r2, r3⟩ := bd_start v k w
  have M := Lib.hid (bmay_t k W (hK.below b) ⟨#[]⟩ false (by rw [if_neg (by rw [h]; decide)]) h)
  obtain ⟨kd, kv, kt, kc⟩ := k
  have R3 := Lib.hid r3
  have HB := Lib.hid b
  have k0 := cell_of_row _ _ 0 _ _ _ r2
  have k1 := cell_of_row _ _ 1 _ _ _ r2
  have k2 := cell_of_row _ _ 2 _ _ _ r2
  have k3 := cell_of_row _ _ 3 _ _ _ r2
  dsimp at k0 k1 k2 k3 hW M
  dsimp only
  have HS := Lib.hid hs
  clear b r1 r2 r3 hK h hs
  go_enter Tryd.func9, Tryd.ntmps9
  go_wp2_with fail
  go_at_call 18
  try rw [hW]
  clear hW
  refine M.out.mono ?_
  rintro e w1 ⟨rfl, hb⟩
  have N1 := Lib.hid (seqB HB.out hb)
  have Q3 := Lib.hid (blk_below R3.out hb)
  have q3 := cell_of_row _ _ 0 _ _ _ Q3.out
  have f3 := frozen_of_row _ _ 0 _ _ Q3.out
  dsimp at q3
  clear hb
  go_wp2_with fail
  refine bodyPost_ret (v := .tuple #[.agg #[.slice none 0 0], .int .i64 2]) ?_ rfl ⟨rfl, ?_⟩
  · rw [results_cell_tmp rfl]; go_simp
  · exact bd_box N1.out (by omega) _
set_option maxRecDepth 100000 in
set_option maxHeartbeats 1000000 in
theorem bbind_rng (v : Value) (k : Ky) (c : Int) (w : World) (hK : KT w) (hE : EN w) (h : mbB k = true) (nm : ByteArray) (hnm : mkS (nmR k) = nm) (sn : ByteArray) (er : Int) (hsn : enN c = sn) (her : enE c = er) (hc : (er == 0) = false ∨ (er = 0 ∧ (c = 1 ∨ c = 38))) :
    Calls Tryd.prog 9 #[.agg #[v], (.agg #[.int .i64 k.1, .int .i64 k.2.1, .string k.2.2.1, .bool k.2.2.2]), .int .i64 c] w fun e w' => e = .returned (.tuple #[.agg #[.slice none 0 0], .int .i64 3]) ∧ Below w.heap.size w w' := by
  have NM := Lib.hid fun w hE => ename_any c w hE
  rw [hsn, her] at NM
  obtain ⟨W, hW, b, hs, r1, r2, r3⟩ := bd_start v k w
  have M := Lib.hid (bmay_t k W (hK.below b) nm true (by rw [if_pos h]; exact hnm) h)
  obtain ⟨kd, kv, kt, kc⟩ := k
  have R1 := Lib.hid r1
  have R3 := Lib.hid r3
  have HB := Lib.hid b
  have HE := Lib.hid hE
  have k0 := cell_of_row _ _ 0 _ _ _ r2
  have k1 := cell_of_row _ _ 1 _ _ _ r2
  have k2 := cell_of_row _ _ 2 _ _ _ r2
  have k3 := cell_of_row _ _ 3 _ _ _ r2
  dsimp at k0 k1 k2 k3 hW M
  dsimp only
  have HS := Lib.hid hs
  clear b r1 r2 r3 hK h hs hE hnm hsn her
  go_enter Tryd.func9, Tryd.ntmps9
  go_wp2_with fail
  go_at_call 18
  try rw [hW]
  clear hW
  refine M.out.mono ?_
  rintro e w1 ⟨rfl, hb⟩
  have N1 := Lib.hid (seqB HB.out hb)
  have Q1 := Lib.hid (blk_below R1.out hb)
  have Q3 := Lib.hid (blk_below R3.out hb)
  have E1 := Lib.hid (HE.out.below N1.out)
  have q1 := cell_of_row _ _ 0 _ _ _ Q1.out
  have q3 := cell_of_row _ _ 0 _ _ _ Q3.out
  have f3 := frozen_of_row _ _ 0 _ _ Q3.out
  dsimp at q1 q3
  clear hb
  go_wp2_with fail
  go_at_call 14
  refine (NM.out _ E1.out).mono ?_
  rintro e w2 ⟨rfl, rfl⟩
  rcases hc with hc | ⟨rfl, rfl | rfl⟩
  · have hne : ¬ er = 0 := by simpa using hc
    go_wp2_with fail
    refine bodyPost_ret (v := .tuple #[.agg #[.slice none 0 0], .int .i64 3]) ?_ rfl ⟨rfl, ?_⟩
    · rw [results_cell_tmp rfl]; go_simp
    · exact bd_box N1.out (by omega) _
  · go_wp2_with fail
    refine bodyPost_ret (v := .tuple #[.agg #[.slice none 0 0], .int .i64 3]) ?_ rfl ⟨rfl, ?_⟩
    · rw [results_cell_tmp rfl]; go_simp
    · exact bd_box N1.out (by omega) _
  · go_wp2_with fail
    refine bodyPost_ret (v := .tuple #[.agg #[.slice none 0 0], .int .i64 3]) ?_ rfl ⟨rfl, ?_⟩
    · rw [results_cell_tmp rfl]; go_simp
    · exact bd_box N1.out (by omega) _
end Go.Proofs.YtgnhnalaakgamaaDoor
set_option linter.unusedVariables false
set_option linter.unusedSimpArgs false
namespace Go.Proofs.YtgnhnalaakgamaaDoor
open Go.RowKit
theorem OwB.base {w : World} {B B' : Nat} {v : Value} {L : List BRow} (h : OwB w B v L) (hB : B' ≤ B) : OwB w B' v L := by
  refine ⟨h.1, ?_⟩
  rcases h.2 with h1 | ⟨g, cap, cur, h1, h2, h3⟩
  · exact .inl h1
  · exact .inr ⟨g, cap, cur, h1, Nat.le_trans hB h2, h3⟩
theorem OwB.blk {w : World} {B g n c : Nat} {L : List BRow} (h : OwB w B (.slice (some ⟨g, 0, none⟩) n c) L) : B ≤ g := by
  rcases h.2 with ⟨h1, _⟩ | ⟨g', cap, cur, h1, h2, h3⟩
  · cases h1
  · injection h1 with e1 e2 e3
    injection e1 with e1
    injection e1 with e1
    rw [e1]; exact h2
theorem OwB.lt {w : World} {B n c : Nat} {a : Option Addr} {L : List BRow} (h : OwB w B (.slice a n c) L) : ∀ ad, a = some ad → B ≤ ad.block ∧ ad.block < w.heap.size := fun ad e => by
  subst e
  rcases h.2 with ⟨h1, _⟩ | ⟨g', cap, cur, h1, h2, h3, _⟩
  · cases h1
  · injection h1 with e1 e2 e3
    injection e1 with e1
    rw [e1]; exact ⟨h2, blk_lt h3⟩
theorem bC_set : ∀ (L : List BRow) (k : Nat) (nm : ByteArray) (cmd : Int), k < L.length → (L.getD k b0).1 = nm → (bC L).set (k * 2 + 1) (.int .i64 cmd) = bC (L.set k (nm, cmd))
  | [], k, nm, cmd, h, _ => by simp at h
  | x :: L, 0, nm, cmd, h, e => by
    have e2 : x.1 = nm := e
    rw [← e2]; rfl
  | x :: L, k + 1, nm, cmd, h, e => by
    have ih := bC_set L k nm cmd (Nat.lt_of_succ_lt_succ h) e
    rw [show (k + 1) * 2 + 1 = k * 2 + 1 + 1 + 1 by omega]
    show Value.string x.1 :: Value.int .i64 x.2 :: (bC L).set (k * 2 + 1) _ = _
    rw [ih]; rfl
theorem OwB.setc {w : World} {B g n c k : Nat} {L : List BRow} {nm : ByteArray} {cmd : Int} (h : OwB w B (.slice (some ⟨g, 0, none⟩) n c) L) (hn : L.length = n) (hk : k < n) (e : (L.getD k b0).1 = nm) :
    OwB (w.setCell ⟨g, k * 2 + 1, none⟩ (.int .i64 cmd)) B (.slice (some ⟨g, 0, none⟩) n c) (L.set k (nm, cmd)) ∧ w.grownBy (w.setCell ⟨g, k * 2 + 1, none⟩ (.int .i64 cmd)) (some g) := by
  subst hn
  have := World.ownsRow.stored h (k * 2 + 1) (.int .i64 cmd)
  rw [bC_set L k nm cmd hk e] at this
  refine ⟨?_, this.2⟩
  unfold OwB
  rw [List.length_set]
  exact this.1
set_option maxRecDepth 100000 in
set_option maxHeartbeats 4000000 in
theorem bbind_ok (L : List BRow) (a : Option Addr) (n c B0 : Nat) (k : Ky) (cmd : Int) (w : World) (h0 : OwB w B0 (.slice a n c) L) (hn : L.length = n) (hl : n ≤ 900) (hs0 : Srt L) (hK : KT w) (hE : EN w) (h : mbB k = true) (nm : ByteArray) (hnm : mkS (nmR k) = nm) (sn : ByteArray) (hsn : enN cmd = sn) (her : enE cmd = 0) (hc1 : (cmd == 1) = false) (hc2 : (cmd == 38) = false) :
    Calls Tryd.prog 9 #[.agg #[.slice a n c], (.agg #[.int .i64 k.1, .int .i64 k.2.1, .string k.2.2.1, .bool k.2.2.2]), .int .i64 cmd] w fun e w' => ∃ a' n' c', e = .returned (.tuple #[.agg #[.slice a' n' c'], .int .i64 0]) ∧ (bput L nm cmd).length = n' ∧ OwB w' w.heap.size (.slice a' n' c') (bput L nm cmd) ∧ Below w.heap.size w w' := by
  have NM := Lib.hid fun w hE => ename_any cmd w hE
  rw [hsn, her] at NM
  have HL := Lib.hid (And.intro hn (And.intro hl hs0))
  have hd1 : ¬ cmd = 1 := by simpa using hc1
  have hd2 : ¬ cmd = 38 := by simpa using hc2
  clear hn hl hs0
  obtain ⟨W, hW, b, hs, r1, r2, r3⟩ := bd_start (.slice a n c) k w
  have M := Lib.hid (bmay_t k W (hK.below b) nm true (by rw [if_pos h]; exact hnm) h)
  obtain ⟨kd, kv, kt, kc⟩ := k
  have R1 := Lib.hid r1
  have R3 := Lib.hid r3
  have HB := Lib.hid b
  have HE := Lib.hid hE
  have k0 := cell_of_row _ _ 0 _ _ _ r2
  have k1 := cell_of_row _ _ 1 _ _ _ r2
  have k2 := cell_of_row _ _ 2 _ _ _ r2
  have k3 := cell_of_row _ _ 3 _ _ _ r2
  dsimp at k0 k1 k2 k3 hW M
  dsimp only
  have HS := Lib.hid hs
  have HO := Lib.hid (rowb_below h0 b)
  clear h0 b r1 r2 r3 hK h hs hE hnm hsn her
  go_enter Tryd.func9, Tryd.ntmps9
  go_wp2_with fail
  go_at_call 18
  try rw [hW]
  clear hW
  refine M.out.mono ?_
  rintro e w1 ⟨rfl, hb⟩
  have N1 := Lib.hid (seqB HB.out hb)
  have Q1 := Lib.hid (blk_below R1.out hb)
  have Q3 := Lib.hid (blk_below R3.out hb)
  have O1 := Lib.hid (rowb_below HO.out hb)
  have E1 := Lib.hid (HE.out.below N1.out)
  have q1 := cell_of_row _ _ 0 _ _ _ Q1.out
  have q3 := cell_of_row _ _ 0 _ _ _ Q3.out
  have f3 := frozen_of_row _ _ 0 _ _ Q3.out
  dsimp at q1 q3
  clear hb
  go_wp2_with fail
  go_at_call 14
  refine (NM.out _ E1.out).mono ?_
  rintro e w2 ⟨rfl, rfl⟩
  go_wp2_with fail
  have hlt : w.heap.size < w2.heap.size := blk_lt Q1.out
  have FD : Hid (Calls Tryd.prog 19 #[.string nm] w2.drew fun e w' => ∃ q, e = .returned (.func (.func 30) #[] #[.pointer (some ⟨q, 0, none⟩)]) ∧ w'.cell? ⟨w.heap.size, 0, none⟩ = some (.slice a n c) ∧ Below w2.heap.size w2 w' ∧ w'.cell? ⟨q, 0, none⟩ = some (.string nm) ∧ OwB w' B0 (.slice a n c) L) := Lib.hid ((bfinder_any nm w2.drew).mono fun e w' ⟨q, he, hq, hb⟩ => ⟨q, he, (hb.cell (p := ⟨w.heap.size, 0, none⟩) hlt).trans q1, ((Below.refl w2.heap.size w2).drew).trans hb, hq, rowb_below O1.out (((Below.refl w2.heap.size w2).drew).trans hb)⟩)
  clear hlt
  go_region_law (first
    | (go_simp; go_at_call 19; refine FD.out.mono ?_; rintro e w3 ⟨q, rfl, q1', hb, hq, ho⟩; have H3 := Lib.hid (And.intro hb (And.intro hq ho)); clear hb hq ho)
    | (go_simp; go_at_call 30; refine (bfind_any L nm a n c B0 q _ H3.out.2.2 HL.out.1 (Nat.le_trans HL.out.2.1 (by decide)) (srt_mono HL.out.2.2 nm HL.out.1) H3.out.2.1).mono ?_; rintro e w4 ⟨at_, bb, g1, g2, g3, g4, rfl, hb⟩; have G4 := Lib.hid (And.intro g1 (And.intro g2 (And.intro g3 g4))); have q1'' := (hb.cell (p := ⟨w.heap.size, 0, none⟩) (Nat.lt_of_lt_of_le (blk_lt Q1.out) H3.out.1.size)).trans q1'; have N4 := Lib.hid (seqB (seqB N1.out H3.out.1) hb); have O4 := Lib.hid (rowb_below H3.out.2.2 hb); have R4 := Lib.hid (blk_below (blk_below Q3.out H3.out.1) hb); clear g1 g2 g3 g4 hb))
  all_goals (
    go_wp2_with fail
    go_at_call 20
    refine (bclone_any L a n c B0 w4 O4.out HL.out.1 (Nat.le_trans HL.out.2.1 (by decide))).mono ?_
    rintro e w5 ⟨b5, d5, rfl, ho5, hb5⟩
    have O5 := Lib.hid ho5
    have N5 := Lib.hid hb5
    have R5 := Lib.hid (blk_below R4.out hb5)
    have hsz : w.heap.size + 1 + 1 < w4.heap.size := blk_lt R4.out
    have HZ := Lib.hid hsz
    clear ho5 hb5 hsz
    cases bb with
    | true =>
      have hat := (G4.out.2.2.2.1 rfl).1
      obtain ⟨g, rfl, c0, c1⟩ := O5.out.cell HL.out.1 at_ hat
      have hg : w4.heap.size ≤ g := (OwB.blk O5.out)
      have fz := World.ownsRow.frozenAt (w := w5) (by have := O5.out; unfold OwB at this; rw [HL.out.1] at this; exact this) (at_ * 2 + 1)
      have hS := O5.out.setc (k := at_) (nm := nm) (cmd := cmd) HL.out.1 hat (cmpR_zero (G4.out.2.2.2.1 rfl).2)
      have hne : g ≠ w.heap.size + 1 + 1 := by have := HZ.out; omega
      have R6 : (w5.setCell ⟨g, at_ * 2 + 1, none⟩ (.int .i64 cmd)).heap[w.heap.size + 1 + 1]? = _ := blk_far R5.out (p := ⟨g, at_ * 2 + 1, none⟩) (Ne.symm hne) _
      have r6 := cell_of_row _ _ 0 _ _ _ R6
      have f6 := frozen_of_row _ _ 0 _ _ R6
      dsimp at r6
      have HS6 := Lib.hid hS
      have HP : Hid (bput L nm cmd = L.set at_ (nm, cmd)) := Lib.hid (bput_set L nm cmd at_ G4.out.2.1 (by rw [HL.out.1]; exact hat) (G4.out.2.2.2.1 rfl).2)
      have HG := Lib.hid hg
      have HR6 := Lib.hid R6
      have hat2 : (at_ : Int) < (n : Int) := by omega
      clear hS hg R6
      go_wp2_with fail
      refine bodyPost_ret (v := .tuple #[.agg #[.slice (some ⟨g, 0, none⟩) n d5], .int .i64 0]) ?_ rfl ⟨some ⟨g, 0, none⟩, n, d5, rfl, ?_, ?_, ?_⟩
      · rw [results_cell_tmp rfl]; go_simp
      · rw [HP.out, List.length_set]; exact HL.out.1
      · rw [HP.out]
        exact OwB.base (ownsRow_setCell_other HS6.out.1 (by intro e; exact hne (Option.some.inj e)) _) (by have := HZ.out; have := HG.out; omega)
      · exact ((seqB N4.out N5.out).setCell (p := ⟨g, at_ * 2 + 1, none⟩) (by have := HZ.out; have := HG.out; show w.heap.size ≤ g; omega) _).setCell (p := ⟨w.heap.size + 1 + 1, 0, none⟩) (by show w.heap.size ≤ w.heap.size + 1 + 1; omega) _
    | false =>
      have hb6 := below_alloc w5 (.cells #[.string nm, .int .i64 cmd] 47)
      have hx6 : InB (w5.alloc (.cells #[.string nm, .int .i64 cmd] 47)) w5.heap.size (nm, cmd) := ⟨_, heap_alloc_new w5 _⟩
      have ho6 := rowb_below O5.out hb6
      have hlt6 := O5.out.lt
      obtain ⟨W6, hW6⟩ : ∃ W6, w5.alloc (.cells #[.string nm, .int .i64 cmd] 47) = W6 := ⟨_, rfl⟩
      rw [hW6] at hb6 hx6 ho6
      have hn6 := N5.out.size
      have hk6 := hb6.size
      have IN := Lib.hid (binsert_any L (nm, cmd) b5 n d5 at_ w4.heap.size w5.heap.size W6 ho6 HL.out.1 (Nat.le_trans HL.out.2.1 (by decide)) G4.out.1 hx6 (by omega) (fun ad e => Nat.ne_of_gt (hlt6 ad e).2))
      have HP : Hid (bput L nm cmd = L.take at_ ++ [(nm, cmd)] ++ L.drop at_) := Lib.hid (bput_ins L nm cmd at_ (by rw [HL.out.1]; exact G4.out.1) G4.out.2.1 (by rw [HL.out.1]; exact G4.out.2.2.1) (by rw [HL.out.1]; intro h; have := G4.out.2.2.2.2 h; cases this))
      have N6 := Lib.hid ((N5.out).trans (hb6.mono hn6))
      have S6 := Lib.hid (And.intro hn6 (And.intro hk6 hlt6))
      clear hb6 hx6 ho6 hlt6 hn6 hk6
      go_wp2_with fail
      go_at_call 21
      try rw [hW6]
      clear hW6
      refine IN.out.mono ?_
      rintro e w7 ⟨a7, c7, rfl, ho7, hg7⟩
      have hb7 := N6.out.grown hg7 (by have := S6.out.1; have := S6.out.2.1; omega) (fun j hj => by
        cases b5 with
        | none => cases hj
        | some ad =>
          have e : ad.block = j := by simpa using hj
          rw [← e]; exact (S6.out.2.2 ad rfl).1)
      have R7 := blk_below R4.out hb7
      have r7 := cell_of_row _ _ 0 _ _ _ R7
      have f7 := frozen_of_row _ _ 0 _ _ R7
      dsimp at r7
      have O7 := Lib.hid ho7
      have N7 := Lib.hid hb7
      have HR7 := Lib.hid R7
      clear ho7 hg7 hb7 R7
      go_wp2_with fail
      refine bodyPost_ret (v := .tuple #[.agg #[.slice a7 (n + 1) c7], .int .i64 0]) ?_ rfl ⟨a7, n + 1, c7, rfl, ?_, ?_, ?_⟩
      · rw [results_cell_tmp rfl]; go_simp
      · have := HL.out.1; have := G4.out.1
        rw [HP.out]; simp only [List.length_append, List.length_take, List.length_drop, List.length_cons, List.length_nil]; omega
      · rw [HP.out]
        exact OwB.base (ownsRow_setCell_below O7.out (a := ⟨w.heap.size + 1 + 1, 0, none⟩) (by have := HZ.out; show w.heap.size + 1 + 1 < w4.heap.size; omega) _) (by have := HZ.out; omega)
      · exact bd_box (seqB N4.out N7.out) (by omega) _)
end Go.Proofs.YtgnhnalaakgamaaDoor
set_option linter.unusedVariables false
set_option linter.unusedSimpArgs false
namespace Go.Proofs.YtgnhnalaakgamaaDoor
open Go.RowKit
theorem enE_zero {c : Int} (h : ¬ enE c = 0) : cmdB c = false := by
  unfold enE at h; unfold cmdB
  split at h
  · exact absurd rfl h
  · rename_i h1; rw [decide_eq_false h1]; rfl
theorem cmdB_no {c : Int} (h : cmdB c = false) : (enE c == 0) = false ∨ (enE c = 0 ∧ (c = 1 ∨ c = 38)) := by
  by_cases he : enE c = 0
  · right
    refine ⟨he, ?_⟩
    by_cases h1 : c = 1
    · exact .inl h1
    · by_cases h2 : c = 38
      · exact .inr h2
      · exfalso
        have hr : 0 ≤ c ∧ c ≤ 41 := by
          unfold enE at he
          split at he
          · assumption
          · omega
        have f1 : (c == 1) = false := by rw [beq_eq_false_iff_ne]; exact h1
        have f2 : (c == 38) = false := by rw [beq_eq_false_iff_ne]; exact h2
        unfold cmdB at h
        rw [decide_eq_true hr, f1, f2] at h
        cases h
  · left; rw [beq_eq_false_iff_ne]; exact he
theorem cmdB_yes {c : Int} (h : cmdB c = true) : enE c = 0 ∧ (c == 1) = false ∧ (c == 38) = false := by
  unfold cmdB at h
  rw [Bool.and_eq_true, Bool.and_eq_true] at h
  refine ⟨?_, by simpa using h.2.1, by simpa using h.2.2⟩
  unfold enE; rw [if_pos (of_decide_eq_true h.1)]
/-- What Bind answers. -/
def bdL (L : List BRow) (k : Ky) (c : Int) : List BRow := if bdE k c = 0 then bput L (mkS (nmR k)) c else []
def BbPost (L : List BRow) (k : Ky) (cmd : Int) (w : World) (e : Ending) (w' : World) : Prop := ∃ a' n' c', e = .returned (.tuple #[.agg #[.slice a' n' c'], .int .i64 (bdE k cmd)]) ∧ (bdL L k cmd).length = n' ∧ OwB w' w.heap.size (.slice a' n' c') (bdL L k cmd) ∧ Below w.heap.size w w'
theorem bbind_any (L : List BRow) (a : Option Addr) (n c B0 : Nat) (k : Ky) (cmd : Int) (w : World) (h0 : OwB w B0 (.slice a n c) L) (hn : L.length = n) (hl : n ≤ 900) (hs0 : Srt L) (hK : KT w) (hE : EN w) :
    Calls Tryd.prog 9 #[.agg #[.slice a n c], (.agg #[.int .i64 k.1, .int .i64 k.2.1, .string k.2.2.1, .bool k.2.2.2]), .int .i64 cmd] w (BbPost L k cmd w) := by
  unfold BbPost bdL
  cases hm : mbB k with
  | false =>
    have e : bdE k cmd = 2 := by unfold bdE; rw [hm]; rfl
    rw [e, if_neg (by decide)]
    refine (bbind_arg (.slice a n c) k cmd w hK hm).mono ?_
    rintro e w' ⟨rfl, hb⟩
    exact ⟨none, 0, 0, rfl, rfl, owb_nil _ _, hb⟩
  | true =>
    cases hc : cmdB cmd with
    | false =>
      have e : bdE k cmd = 3 := by unfold bdE; rw [hm, hc]; rfl
      rw [e, if_neg (by decide)]
      refine (bbind_rng (.slice a n c) k cmd w hK hE hm _ rfl _ _ rfl rfl (cmdB_no hc)).mono ?_
      rintro e w' ⟨rfl, hb⟩
      exact ⟨none, 0, 0, rfl, rfl, owb_nil _ _, hb⟩
    | true =>
      have e : bdE k cmd = 0 := by unfold bdE; rw [hm, hc]; rfl
      obtain ⟨c1, c2, c3⟩ := cmdB_yes hc
      rw [e, if_pos rfl]
      exact bbind_ok L a n c B0 k cmd w h0 hn hl hs0 hK hE hm _ rfl _ rfl c1 c2 c3
/-- The row of a name. -/
def bfnd (L : List BRow) (s : ByteArray) : Option BRow := L.find? fun x => decide (x.1 = s)
theorem bfnd_at : ∀ (L : List BRow) (s : ByteArray) (k : Nat), (∀ i, i < k → bcm L s i < 0) → k < L.length → bcm L s k = 0 → bfnd L s = some (L.getD k b0)
  | [], s, k, _, h, _ => by simp at h
  | x :: L, s, 0, _, _, h => by
    have e : x.1 = s := cmpR_zero h
    unfold bfnd
    rw [List.find?_cons, decide_eq_true e]; rfl
  | x :: L, s, k + 1, h, hk, h2 => by
    have hx : cmpR x.1 s < 0 := h 0 (Nat.zero_lt_succ _)
    have e : ¬ x.1 = s := fun e => by rw [e, cmpR_self] at hx; omega
    have ih := bfnd_at L s k (fun i hi => h (i + 1) (Nat.succ_lt_succ hi)) (Nat.lt_of_succ_lt_succ hk) h2
    unfold bfnd at ih ⊢
    rw [List.find?_cons, decide_eq_false e]
    exact ih
theorem bfnd_no (L : List BRow) (s : ByteArray) (k : Nat) (hs : Srt L) (h1 : ∀ i, i < k → bcm L s i < 0) (h2 : ∀ i, k ≤ i → i < L.length → 0 ≤ bcm L s i) (h3 : ¬ (k < L.length ∧ bcm L s k = 0)) : bfnd L s = none := by
  unfold bfnd
  rw [List.find?_eq_none]
  intro x hx e
  have e : x.1 = s := by simpa using e
  obtain ⟨j, hj, rfl⟩ := List.getElem_of_mem hx
  have hc : bcm L s j = 0 := by
    rw [bcm_cmp, List.getD, List.getElem?_eq_getElem hj]
    show cmpR L[j].1 s = 0
    rw [e]; exact cmpR_self s
  rcases Nat.lt_trichotomy j k with hjk | rfl | hjk
  · have := h1 j hjk; omega
  · exact h3 ⟨hj, hc⟩
  · have hk : k < L.length := by omega
    have := h2 k (Nat.le_refl _) hk
    have hlt := List.pairwise_iff_getElem.1 hs k j hk hj hjk
    rw [e] at hlt
    rw [bcm_cmp, List.getD, List.getElem?_eq_getElem hk] at this
    have : 0 ≤ cmpR L[k].1 s := this
    omega
/-- What a key asks for. -/
def bcD (L : List BRow) (k : Ky) : Int := if mbB k then ((bfnd L (mkS (nmR k))).map (·.2)).getD (cmE k) else cmE k
set_option maxRecDepth 100000 in
set_option maxHeartbeats 4000000 in
theorem bcmd_any (L : List BRow) (a : Option Addr) (n c B0 : Nat) (k : Ky) (w : World) (h0 : OwB w B0 (.slice a n c) L) (hn : L.length = n) (hl : n ≤ 900) (hs0 : Srt L) (hK : KT w) :
    Calls Tryd.prog 10 #[.agg #[.slice a n c], (.agg #[.int .i64 k.1, .int .i64 k.2.1, .string k.2.2.1, .bool k.2.2.2])] w fun e w' => e = .returned (.int .i64 (bcD L k)) ∧ Below w.heap.size w w' := by
  obtain ⟨W, hW, b, hs, r1, r2, r3⟩ := bd_start2 (.slice a n c) k w
  have EC := Lib.hid fun w hK => ecmd_any k w hK
  obtain ⟨nm, hnm⟩ : ∃ nm, (if mbB k then mkS (nmR k) else ⟨#[]⟩) = nm := ⟨_, rfl⟩
  obtain ⟨bm, hbm⟩ : ∃ bm, mbB k = bm := ⟨_, rfl⟩
  have M := Lib.hid (bmay_t k W (hK.below b) nm bm hnm hbm)
  obtain ⟨r, hr⟩ : ∃ r, bcD L k = r := ⟨_, rfl⟩
  obtain ⟨r0, hr0⟩ : ∃ r0, cmE k = r0 := ⟨_, rfl⟩
  have HR : Hid ((bm = true → ((bfnd L nm).map (·.2)).getD r0 = r) ∧ (bm = false → r0 = r)) := Lib.hid (by
    unfold bcD at hr
    rw [hbm] at hr hnm
    rw [hr0] at hr
    refine ⟨fun e => ?_, fun e => ?_⟩
    · rw [e, if_pos rfl] at hr hnm; rw [← hnm]; exact hr
    · rw [e, if_neg (by decide)] at hr; exact hr)
  rw [hr]
  rw [hr0] at EC
  clear hr hr0 hnm hbm
  obtain ⟨kd, kv, kt, kc⟩ := k
  have R1 := Lib.hid r1
  have R2 := Lib.hid r2
  have HB := Lib.hid b
  have k0 := cell_of_row _ _ 0 _ _ _ r2
  have k1 := cell_of_row _ _ 1 _ _ _ r2
  have k2 := cell_of_row _ _ 2 _ _ _ r2
  have k3 := cell_of_row _ _ 3 _ _ _ r2
  dsimp at k0 k1 k2 k3 hW M EC
  dsimp only
  have HO := Lib.hid (rowb_below h0 b)
  have HL := Lib.hid (And.intro hn (And.intro hl hs0))
  have HK := Lib.hid hK
  clear h0 b r1 r2 r3 hK hs hn hl hs0
  go_enter Tryd.func10, Tryd.ntmps10
  go_wp2_with fail
  go_at_call 18
  try rw [hW]
  clear hW
  refine M.out.mono ?_
  rintro e w1 ⟨rfl, hb⟩
  have N1 := Lib.hid (seqB HB.out hb)
  have Q1 := Lib.hid (blk_below R1.out hb)
  have Q2 := Lib.hid (blk_below R2.out hb)
  have O1 := Lib.hid (rowb_below HO.out hb)
  have q1 := cell_of_row _ _ 0 _ _ _ Q1.out
  dsimp at q1
  clear hb k0 k1 k2 k3
  cases bm with
  | false =>
    have HV : Hid (r0 = r) := Lib.hid (HR.out.2 rfl)
    have k0 := cell_of_row _ _ 0 _ _ _ Q2.out
    have k1 := cell_of_row _ _ 1 _ _ _ Q2.out
    have k2 := cell_of_row _ _ 2 _ _ _ Q2.out
    have k3 := cell_of_row _ _ 3 _ _ _ Q2.out
    dsimp at k0 k1 k2 k3
    go_wp2_with fail
    go_at_call 22
    refine (EC.out _ (HK.out.below N1.out)).mono ?_
    rintro e w2 ⟨rfl, hb⟩
    have N2 := Lib.hid (seqB N1.out hb)
    clear hb
    go_wp2_with fail
    go_ret
    exact ⟨by rw [HV.out] <;> rfl, N2.out⟩
  | true =>
    have HV0 := Lib.hid (HR.out.1 rfl)
    clear HR
    have hlt : w.heap.size < w1.heap.size := blk_lt Q1.out
    have FD : Hid (Calls Tryd.prog 19 #[.string nm] w1.drew fun e w' => ∃ q, e = .returned (.func (.func 30) #[] #[.pointer (some ⟨q, 0, none⟩)]) ∧ w'.cell? ⟨w.heap.size, 0, none⟩ = some (.slice a n c) ∧ Below w1.heap.size w1 w' ∧ w'.cell? ⟨q, 0, none⟩ = some (.string nm) ∧ OwB w' B0 (.slice a n c) L) := Lib.hid ((bfinder_any nm w1.drew).mono fun e w' ⟨q, he, hq, hb⟩ => ⟨q, he, (hb.cell (p := ⟨w.heap.size, 0, none⟩) hlt).trans q1, ((Below.refl w1.heap.size w1).drew).trans hb, hq, rowb_below O1.out (((Below.refl w1.heap.size w1).drew).trans hb)⟩)
    clear hlt
    go_wp2_with fail
    go_region_law (first
      | (go_simp; go_at_call 19; refine FD.out.mono ?_; rintro e w3 ⟨q, rfl, q1', hb, hq, ho⟩; have H3 := Lib.hid (And.intro hb (And.intro hq ho)); clear hb hq ho)
      | (go_simp; go_at_call 30; refine (bfind_any L nm a n c B0 q _ H3.out.2.2 HL.out.1 (Nat.le_trans HL.out.2.1 (by decide)) (srt_mono HL.out.2.2 nm HL.out.1) H3.out.2.1).mono ?_; rintro e w4 ⟨at_, bb, g1, g2, g3, g4, rfl, hb⟩; have G4 := Lib.hid (And.intro g1 (And.intro g2 (And.intro g3 g4))); have q1'' := (hb.cell (p := ⟨w.heap.size, 0, none⟩) (Nat.lt_of_lt_of_le (blk_lt Q1.out) H3.out.1.size)).trans q1'; have N4 := Lib.hid (seqB (seqB N1.out H3.out.1) hb); have O4 := Lib.hid (rowb_below H3.out.2.2 hb); have R4 := Lib.hid (blk_below (blk_below Q2.out H3.out.1) hb); clear g1 g2 g3 g4 hb))
    all_goals (
      cases bb with
      | true =>
        have hat := (G4.out.2.2.2.1 rfl).1
        obtain ⟨g, rfl, c0, c1⟩ := O4.out.cell HL.out.1 at_ hat
        have hat2 : (at_ : Int) < (n : Int) := by omega
        have HV : Hid ((L.getD at_ b0).2 = r) := Lib.hid (by
          have h1 := HV0.out
          rw [bfnd_at L nm at_ G4.out.2.1 (by rw [HL.out.1]; exact hat) (G4.out.2.2.2.1 rfl).2] at h1
          exact h1)
        rw [HV.out] at c1
        clear c0 hat
        go_wp2_with fail
        go_ret
        exact ⟨rfl, N4.out⟩
      | false =>
        have HV : Hid (r0 = r) := Lib.hid (by
          have h1 := HV0.out
          rw [bfnd_no L nm at_ HL.out.2.2 G4.out.2.1 (by rw [HL.out.1]; exact G4.out.2.2.1) (by rw [HL.out.1]; intro h; have := G4.out.2.2.2.2 h; cases this)] at h1
          exact h1)
        have k0 := cell_of_row _ _ 0 _ _ _ R4.out
        have k1 := cell_of_row _ _ 1 _ _ _ R4.out
        have k2 := cell_of_row _ _ 2 _ _ _ R4.out
        have k3 := cell_of_row _ _ 3 _ _ _ R4.out
        dsimp at k0 k1 k2 k3
        go_wp2_with fail
        go_at_call 22
        refine (EC.out _ (HK.out.below N4.out)).mono ?_
        rintro e w5 ⟨rfl, hb⟩
        have N5 := Lib.hid (seqB N4.out hb)
        clear hb
        go_wp2_with fail
        go_ret
        exact ⟨by rw [HV.out] <;> rfl, N5.out⟩)
end Go.Proofs.YtgnhnalaakgamaaDoor
set_option linter.unusedVariables false
set_option linter.unusedSimpArgs false
namespace Go.Proofs.YtgnhnalaakgamaaDoor
open Go.RowKit
/-- The command of a name. -/
def enIx (s : ByteArray) : Option Nat := (List.range 42).find? fun k => decide (enS.getD k ⟨#[]⟩ = s)
theorem enIx_some {s : ByteArray} {k : Nat} (h : enIx s = some k) : k < 42 ∧ enS.getD k ⟨#[]⟩ = s := by
  have h1 := List.mem_of_find?_eq_some h
  have h2 := List.find?_some h
  exact ⟨List.mem_range.1 h1, by simpa using h2⟩
theorem enIx_none {s : ByteArray} (h : enIx s = none) : ∀ j, j < 42 → enS.getD j ⟨#[]⟩ ≠ s := fun j hj e => by
  have := List.find?_eq_none.1 h j (List.mem_range.2 hj)
  exact this (decide_eq_true e)
theorem enIx_of {s : ByteArray} {k : Nat} (hk : k < 42) (h : enS.getD k ⟨#[]⟩ = s) : enIx s = some k := by
  cases e : enIx s with
  | none => exact absurd h (enIx_none e k hk)
  | some j =>
    have := enIx_some e
    rw [en_inj j k this.1 hk (this.2.trans h.symm)]
/-- A line at its first blank. -/
def cbB : List UInt8 → Option (List UInt8 × List UInt8)
  | [] => none
  | c :: l => if c = 32 then some ([], l) else (cbB l).map fun p => (c :: p.1, p.2)
theorem cbB_some : ∀ {l a b : List UInt8}, cbB l = some (a, b) → l = a ++ 32 :: b ∧ ∀ c ∈ a, c ≠ 32
  | [], a, b, h => by simp [cbB] at h
  | c :: l, a, b, h => by
    unfold cbB at h
    split at h
    · rename_i hc
      simp only [Option.some.injEq, Prod.mk.injEq] at h
      obtain ⟨rfl, rfl⟩ := h
      exact ⟨by rw [hc]; rfl, fun c h => by simp at h⟩
    · rename_i hc
      cases e : cbB l with
      | none => rw [e] at h; cases h
      | some p =>
        rw [e] at h
        simp only [Option.map_some, Option.some.injEq, Prod.mk.injEq] at h
        obtain ⟨rfl, rfl⟩ := h
        obtain ⟨p1, p2⟩ := p
        have ih := cbB_some e
        refine ⟨by rw [ih.1]; rfl, fun d hd => ?_⟩
        rcases List.mem_cons.1 hd with rfl | hd
        · exact hc
        · exact ih.2 d hd
theorem cbB_none : ∀ {l : List UInt8}, cbB l = none → ∀ c ∈ l, c ≠ 32
  | [], _, c, h => by simp at h
  | d :: l, h, c, hc => by
    unfold cbB at h
    split at h
    · cases h
    · rename_i hd
      rcases List.mem_cons.1 hc with rfl | hc
      · exact hd
      · exact cbB_none (Option.map_eq_none_iff.1 h) c hc
theorem cbB_of : ∀ (a b : List UInt8), (∀ c ∈ a, c ≠ 32) → cbB (a ++ 32 :: b) = some (a, b)
  | [], b, _ => rfl
  | c :: a, b, h => by
    rw [List.cons_append]
    unfold cbB
    rw [if_neg (h c List.mem_cons_self), cbB_of a b (fun d hd => h d (List.mem_cons_of_mem _ hd))]; rfl
/-- A line that binds a key: its name, the command. -/
def lbB (l : List UInt8) : Option (Ky × Nat) :=
  match cbB l with
  | none => none
  | some (a, b) => if prE a = 0 then (enIx (mkL b)).map fun c => (prK a, c) else none
/-- A line that says nothing. -/
def lbN (l : List UInt8) : Bool := l.isEmpty || l.head? == some 35
/-- What Parse answers: rows, the error. -/
def prB : List (List UInt8) → List BRow → List BRow × Int
  | [], L => (L, 0)
  | p :: ps, L =>
    if lbN p then prB ps L
    else match lbB p with
    | none => ([], 10)
    | some (k, c) => if bdE k c = 0 then prB ps (bput L (mkS (nmR k)) c) else ([], bdE k c)
/-- The text of rows. -/
def txB (L : List BRow) : List UInt8 := L.flatMap fun x => x.1.data.toList ++ 32 :: ((enN x.2).data.toList ++ [10])
/-- A row that a line may tell. -/
structure RowG (x : BRow) : Prop where
  k : prE x.1.data.toList = 0 ∧ mbB (prK x.1.data.toList) = true
  nb : ∀ c ∈ x.1.data.toList, c ≠ 32 ∧ c ≠ 10
  h : x.1.data.toList.head? ≠ some 35
  c : ∃ n : Nat, x.2 = n ∧ n < 42 ∧ cmdB n = true
  s : x.1.size ≤ 1000
theorem prB_name {l : List UInt8} (h : prE l = 0) : nmR (prK l) = l ∧ keyB (prK l) = true := by
  have ho : prOk l = true := by
    unfold prE at h
    split at h
    · assumption
    · omega
  unfold prK
  rw [if_pos ho]
  unfold prOk at ho
  rw [Bool.and_eq_true, beq_iff_eq] at ho
  exact ⟨by unfold nmR; rw [if_pos ho.1, ho.2], ho.1⟩
theorem lbB_some {l : List UInt8} {k : Ky} {c : Nat} (h : lbB l = some (k, c)) : ∃ a b, l = a ++ 32 :: b ∧ (∀ c ∈ a, c ≠ 32) ∧ prE a = 0 ∧ prK a = k ∧ c < 42 ∧ enS.getD c ⟨#[]⟩ = mkL b := by
  unfold lbB at h
  split at h
  · cases h
  · rename_i a b e
    split at h
    · rename_i hp
      cases e2 : enIx (mkL b) with
      | none => rw [e2] at h; cases h
      | some n =>
        rw [e2] at h
        simp only [Option.map_some, Option.some.injEq, Prod.mk.injEq] at h
        obtain ⟨rfl, rfl⟩ := h
        have e3 := enIx_some e2
        exact ⟨a, b, (cbB_some e).1, (cbB_some e).2, hp, rfl, e3.1, e3.2⟩
    · cases h
theorem bdE_zero {k : Ky} {c : Int} (h : bdE k c = 0) : mbB k = true ∧ cmdB c = true := by
  unfold bdE at h
  split at h
  · rename_i h1
    split at h
    · rename_i h2; exact ⟨h1, h2⟩
    · omega
  · omega
theorem bdE_of {k : Ky} {c : Int} (h : mbB k = true) (h2 : cmdB c = true) : bdE k c = 0 := by
  unfold bdE; rw [if_pos h, if_pos h2]
/-- A line makes a good row. -/
theorem row_good {l : List UInt8} {k : Ky} {c : Nat} (hn : lbN l = false) (h : lbB l = some (k, c)) (hb : bdE k c = 0) (h10 : ∀ c ∈ l, c ≠ 10) (hl : l.length ≤ 1000) : RowG (mkS (nmR k), (c : Int)) := by
  obtain ⟨a, b, rfl, h1, h2, h3, h4, h5⟩ := lbB_some h
  subst h3
  have hz := bdE_zero hb
  have hp := prB_name h2
  rw [hp.1]
  refine ⟨⟨h2, hz.1⟩, fun c hc => ⟨h1 c hc, h10 c (List.mem_append_left _ hc)⟩, fun e => ?_, ⟨c, rfl, h4, hz.2⟩, ?_⟩
  · have e2 : a.head? = some 35 := e
    cases a with
    | nil => simp at e2
    | cons x a =>
      simp only [List.head?_cons, Option.some.injEq] at e2
      subst e2
      simp [lbN] at hn
  · show (mkS a).size ≤ 1000
    rw [mkS_size]; simp only [List.length_append] at hl; omega
theorem prB_good : ∀ (ps : List (List UInt8)) (L : List BRow), (∀ p ∈ ps, (∀ c ∈ p, c ≠ 10) ∧ p.length ≤ 1000) → (∀ x ∈ L, RowG x) → Srt L → (∀ x ∈ (prB ps L).1, RowG x) ∧ Srt (prB ps L).1 ∧ (prB ps L).1.length ≤ L.length + ps.length ∧ ((prB ps L).2 = 0 ∨ ((prB ps L).1 = [] ∧ ((prB ps L).2 = 10 ∨ (prB ps L).2 = 2 ∨ (prB ps L).2 = 3)))
  | [], L, _, hL, hs => ⟨hL, hs, Nat.le_refl _, .inl rfl⟩
  | p :: ps, L, hp, hL, hs => by
    have hp' := fun q hq => hp q (List.mem_cons_of_mem _ hq)
    unfold prB
    cases hn : lbN p with
    | true =>
      rw [if_pos rfl]
      have ih := prB_good ps L hp' hL hs
      exact ⟨ih.1, ih.2.1, by rw [List.length_cons]; omega, ih.2.2.2⟩
    | false =>
      rw [if_neg (by decide)]
      split
      · exact ⟨fun x hx => by simp at hx, List.Pairwise.nil, Nat.zero_le _, .inr ⟨rfl, .inl rfl⟩⟩
      · rename_i k c e
        split
        · rename_i hz
          have hg := row_good hn e hz (hp p List.mem_cons_self).1 (hp p List.mem_cons_self).2
          have ih := prB_good ps (bput L (mkS (nmR k)) c) hp' (fun x hx => by
            rcases bput_mem L _ _ x hx with rfl | hx
            · exact hg
            · exact hL x hx) (bput_srt L _ _ hs)
          have := bput_len L (mkS (nmR k)) c
          exact ⟨ih.1, ih.2.1, by rw [List.length_cons]; omega, ih.2.2.2⟩
        · rename_i hz
          refine ⟨fun x hx => by simp at hx, List.Pairwise.nil, Nat.zero_le _, .inr ⟨rfl, ?_⟩⟩
          unfold bdE at hz ⊢
          split
          · split
            · rename_i h1 h2; exact absurd (by rw [if_pos h1, if_pos h2]) hz
            · right; right; rfl
          · right; left; rfl
/-- The line of a row. -/
def lnR (x : BRow) : List UInt8 := x.1.data.toList ++ 32 :: (enN x.2).data.toList
theorem enN_nat (n : Nat) (h : n < 42) : enN (n : Int) = enS.getD n ⟨#[]⟩ := by
  unfold enN; rw [if_pos (by omega)]; simp
theorem en_no10 : ∀ n, n < 42 → ∀ c ∈ (enS.getD n ⟨#[]⟩).data.toList, c ≠ 10 := by decide +kernel
theorem en_short : ∀ n, n < 42 → (enS.getD n ⟨#[]⟩).data.toList.length ≤ 100 := by decide +kernel
theorem lnR_back {x : BRow} (h : RowG x) : lbN (lnR x) = false ∧ ∃ n : Nat, x.2 = n ∧ lbB (lnR x) = some (prK x.1.data.toList, n) ∧ bdE (prK x.1.data.toList) n = 0 ∧ mkS (nmR (prK x.1.data.toList)) = x.1 := by
  obtain ⟨n, e, hn, hc⟩ := h.c
  have hh := h.h
  refine ⟨?_, n, e, ?_, bdE_of h.k.2 hc, ?_⟩
  · unfold lbN lnR
    cases hx : x.1.data.toList with
    | nil => rfl
    | cons c l =>
      rw [hx] at hh
      simp only [List.head?_cons, ne_eq, Option.some.injEq] at hh
      simp [hh]
  · unfold lbB lnR
    rw [cbB_of _ _ fun c hc => (h.nb c hc).1]
    show (if prE _ = 0 then _ else _) = _
    have hm : mkL (enS.getD n ⟨#[]⟩).data.toList = enS.getD n ⟨#[]⟩ := by unfold mkL; rw [Array.toArray_toList]
    rw [if_pos h.k.1, e, enN_nat n hn, hm, enIx_of hn rfl]
    rfl
  · rw [(prB_name h.k.1).1]
theorem lnR_no10 {x : BRow} (h : RowG x) : ∀ c ∈ lnR x, c ≠ 10 := by
  obtain ⟨n, e, hn, hc⟩ := h.c
  intro c hcc
  unfold lnR at hcc
  rw [e, enN_nat n hn] at hcc
  rcases List.mem_append.1 hcc with h1 | h1
  · exact (h.nb c h1).2
  · rcases List.mem_cons.1 h1 with rfl | h1
    · decide
    · exact en_no10 n hn c h1
theorem txB_jo : ∀ (L : List BRow), ∃ p ps, p :: ps = L.map lnR ++ [[]] ∧ txB L = joB 10 p ps
  | [] => ⟨[], [], rfl, rfl⟩
  | x :: L => by
    obtain ⟨p, ps, e, h⟩ := txB_jo L
    refine ⟨lnR x, p :: ps, by rw [List.map_cons, List.cons_append, e], ?_⟩
    rw [joB_cons, ← h]
    unfold txB lnR
    simp
theorem txB_pc (L : List BRow) (h : ∀ x ∈ L, RowG x) : pcB 10 (txB L) = L.map lnR ++ [[]] := by
  obtain ⟨p, ps, e, ht⟩ := txB_jo L
  have hall : ∀ q ∈ p :: ps, ∀ c ∈ q, c ≠ 10 := fun q hq c hc => by
    rw [e] at hq
    rcases List.mem_append.1 hq with h1 | h1
    · obtain ⟨x, hx, rfl⟩ := List.mem_map.1 h1
      exact lnR_no10 (h x hx) c hc
    · simp at h1; subst h1; simp at hc
  unfold pcB
  rw [ht, spB_of 10 p ps (hall p List.mem_cons_self) (fun q hq => hall q (List.mem_cons_of_mem _ hq)), e]
theorem prB_back : ∀ (M L : List BRow), (∀ x ∈ M, RowG x) → Srt (L ++ M) → prB (M.map lnR ++ [[]]) L = (L ++ M, 0)
  | [], L, _, _ => by
    rw [List.append_nil]; rfl
  | x :: M, L, h, hs => by
    obtain ⟨h1, n, e, h2, h3, h4⟩ := lnR_back (h x List.mem_cons_self)
    rw [List.map_cons, List.cons_append]
    unfold prB
    rw [h1, if_neg (by decide), h2]
    show (if bdE _ _ = 0 then _ else _) = _
    have hx : bput L (mkS (nmR (prK x.1.data.toList))) (n : Int) = L ++ [x] := by
      rw [h4, ← e]
      refine bput_end L x.1 x.2 fun y hy => ?_
      exact (List.pairwise_append.1 hs).2.2 y hy x List.mem_cons_self
    rw [if_pos h3, hx, prB_back M (L ++ [x]) (fun y hy => h y (List.mem_cons_of_mem _ hy)) (by rw [List.append_assoc]; exact hs), List.append_assoc]
    rfl
/-- What is told is read back. -/
theorem prB_txB (L : List BRow) (h : ∀ x ∈ L, RowG x) (hs : Srt L) : prB (pcB 10 (txB L)) [] = (L, 0) := by
  rw [txB_pc L h]
  exact prB_back L [] h hs
theorem txB_len : ∀ (L : List BRow), (∀ x ∈ L, RowG x) → (txB L).length ≤ L.length * 1200
  | [], _ => Nat.le_refl _
  | x :: L, h => by
    have ih := txB_len L fun y hy => h y (List.mem_cons_of_mem _ hy)
    have hx := h x List.mem_cons_self
    obtain ⟨n, e, hn, hc⟩ := hx.c
    have h1 := hx.s
    have h2 := en_short n hn
    have h3 : x.1.data.toList.length = x.1.size := by rw [Array.length_toList]; rfl
    unfold txB at ih ⊢
    rw [List.flatMap_cons, List.length_append, List.length_cons, Nat.add_mul]
    simp only [List.length_append, List.length_cons, List.length_nil, e, enN_nat n hn] at *
    omega
end Go.Proofs.YtgnhnalaakgamaaDoor
set_option linter.unusedVariables false
set_option linter.unusedSimpArgs false
namespace Go.Proofs.YtgnhnalaakgamaaDoor
open Go.RowKit
set_option maxRecDepth 100000 in
set_option maxHeartbeats 1000000 in
theorem bsame_any (L M : List BRow) (a a' : Option Addr) (n n' c c' B B' : Nat) (w : World) (h : OwB w B (.slice a n c) L) (hn : L.length = n) (h' : OwB w B' (.slice a' n' c') M) (hn' : M.length = n') (hl : n ≤ 1000) (hl' : n' ≤ 1000) :
    Calls Tryd.prog 8 #[.agg #[.slice a n c], .agg #[.slice a' n' c']] w fun e w' => e = .returned (.bool (decide (L = M))) ∧ Below w.heap.size w w' := by
  have b1 := below_alloc w (.cells #[.slice a n c] 25)
  have r1 := heap_alloc_new w (.cells #[.slice a n c] 25)
  have s1 : (w.alloc (.cells #[.slice a n c] 25)).heap.size = w.heap.size + 1 := by simp
  have b2 := below_alloc (w.alloc (.cells #[.slice a n c] 25)) (.cells #[.slice a' n' c'] 25)
  have r2 := heap_alloc_new (w.alloc (.cells #[.slice a n c] 25)) (.cells #[.slice a' n' c'] 25)
  rw [s1] at r2
  have r1' := blk_below r1 b2
  have b12 := seqB b1 b2
  obtain ⟨W, hW⟩ : ∃ W, (w.alloc (.cells #[.slice a n c] 25)).alloc (.cells #[.slice a' n' c'] 25) = W := ⟨_, rfl⟩
  rw [hW] at r2 r1' b12
  have EQ := Lib.hid (bequal_any L M a a' n n' c c' B B' W (rowb_below h b12) hn (rowb_below h' b12) hn' hl hl')
  have HB := Lib.hid b12
  have q1 := cell_of_row _ _ 0 _ _ _ r1'
  have q2 := cell_of_row _ _ 0 _ _ _ r2
  dsimp at q1 q2
  clear b1 r1 s1 b2 r2 r1' b12 h h' hn hn' hl hl'
  go_enter Tryd.func8, Tryd.ntmps8
  go_wp2_with fail
  go_at_call 17
  try rw [hW]
  clear hW
  refine EQ.out.mono ?_
  rintro e w1 ⟨rfl, hb⟩
  have N1 := Lib.hid (seqB HB.out hb)
  clear hb
  go_wp2_with fail
  go_ret
  exact ⟨rfl, N1.out⟩
theorem txB_take (L : List BRow) (k : Nat) (h : k < L.length) : txB (L.take (k + 1)) = txB (L.take k) ++ ((L.getD k b0).1.data.toList ++ 32 :: ((enN (L.getD k b0).2).data.toList ++ [10])) := by
  unfold txB
  rw [List.take_add_one, List.flatMap_append, List.getD, List.getElem?_eq_getElem h]
  simp
theorem txB_short (L : List BRow) (h : ∀ x ∈ L, x.1.size ≤ 1000) : (txB L).length ≤ L.length * 1200 := by
  induction L with
  | nil => exact Nat.le_refl _
  | cons x L ih =>
    have ih := ih fun y hy => h y (List.mem_cons_of_mem _ hy)
    have h1 := h x List.mem_cons_self
    have h3 : x.1.data.toList.length = x.1.size := by rw [Array.length_toList]; rfl
    have h2 : (enN x.2).data.toList.length ≤ 100 := by
      unfold enN
      split
      · exact en_short _ (by omega)
      · exact Nat.zero_le _
    unfold txB at ih ⊢
    rw [List.flatMap_cons, List.length_append, List.length_cons, Nat.add_mul]
    simp only [List.length_append, List.length_cons, List.length_nil] at *
    omega
theorem row_str (nm sn : ByteArray) : Lib.byteCells (nm.data.toList ++ 32 :: (sn.data.toList ++ [10])) = Lib.strCells (nm ++ ⟨#[32]⟩ ++ sn ++ ⟨#[10]⟩) := by
  rw [Lib.strCells_eq]
  congr 1
  simp [ByteArray.data_append]
set_option maxRecDepth 100000 in
set_option maxHeartbeats 4000000 in
theorem btext_any (L : List BRow) (a : Option Addr) (n c B0 : Nat) (w : World) (h0 : OwB w B0 (.slice a n c) L) (hn : L.length = n) (hl : n ≤ 900) (hs : ∀ x ∈ L, x.1.size ≤ 1000) (hE : EN w) :
    Calls Tryd.prog 7 #[.agg #[.slice a n c]] w fun e w' => e = .returned (.string (mkL (txB L))) ∧ Below w.heap.size w w' := by
  have b1 := below_alloc w (.cells #[.slice a n c] 25)
  have r1 := heap_alloc_new w (.cells #[.slice a n c] 25)
  have s1 : (w.alloc (.cells #[.slice a n c] 25)).heap.size = w.heap.size + 1 := by simp
  obtain ⟨W1, hW1⟩ : ∃ W1, w.alloc (.cells #[.slice a n c] 25) = W1 := ⟨_, rfl⟩
  rw [hW1] at b1 r1 s1
  have b2 := below_alloc W1 (.cells #[.pointer none, .slice none 0 0] 45)
  have I0 := blS_new W1
  have r1' := blk_below r1 b2
  obtain ⟨W0, hW0⟩ : ∃ W0, W1.alloc (.cells #[.pointer none, .slice none 0 0] 45) = W0 := ⟨_, rfl⟩
  rw [hW0] at b2 r1' I0
  rw [s1] at I0
  have b12 := seqB b1 b2
  obtain ⟨B, hB⟩ : ∃ B, w.heap.size + 1 = B := ⟨_, rfl⟩
  have hBW : B ≤ W0.heap.size := by have := b2.size; omega
  rw [hB] at I0
  have HI0 := Lib.hid I0
  have HN0 := Lib.hid b12
  have HS0 := Lib.hid hBW
  have HBq := Lib.hid (show w.heap.size ≤ B by omega)
  have HO := Lib.hid h0
  have HL := Lib.hid (And.intro hn (And.intro hl hs))
  have HE := Lib.hid hE
  have q1 := cell_of_row _ _ 0 _ _ _ r1'
  dsimp at q1
  have NM := Lib.hid fun c w hE => ename_any c w hE
  have HW : Hid ((w.alloc (.cells #[.slice a n c] 25)).alloc (.cells #[.pointer none, .slice none 0 0] 45) = W0) := Lib.hid (by rw [hW1]; exact hW0)
  clear b1 r1 s1 b2 r1' b12 I0 hBW h0 hn hl hs hE hW0 hW1
  have hW := HW.out
  go_enter Tryd.func7, Tryd.ntmps7
  go_upto_region 3 with fail
  clear hW
  go_loopw [11] (fun iv wr => ∃ k : Nat, k ≤ n ∧ iv = .int .i64 (k : Int) ∧ Hid (IsBld B B (Lib.byteCells (txB (L.take k))) wr) ∧ Hid (B ≤ wr.heap.size) ∧ Hid (Below w.heap.size w wr)) (fun iv _ => n - (intOf iv).toNat)
  case atStart => exact ⟨0, Nat.zero_le _, rfl, HI0, HS0, HN0⟩
  case round =>
    obtain ⟨k, hk, rfl, HI, HBs, HB⟩ := hrel
    clear HI0 HN0 HS0 q1
    have hn9 := HL.out.2.1
    by_cases hlt : k < n
    · have hk1 : (k : Int) < (n : Int) := by omega
      have hk0 : (0 : Int) ≤ (k : Int) := by omega
      obtain ⟨g, rfl, x0, x1⟩ := OwB.cell (rowb_below HO.out HB.out) HL.out.1 k hlt
      have htk := txB_take L k (by rw [HL.out.1]; exact hlt)
      have hlen := txB_short (L.take k) (fun x hx => HL.out.2.2 x (List.mem_of_mem_take hx))
      rw [List.length_take] at hlen
      have hsz : (L.getD k b0).1.size ≤ 1000 := by
        have hlk : k < L.length := by rw [HL.out.1]; exact hlt
        rw [List.getD, List.getElem?_eq_getElem hlk]
        exact HL.out.2.2 _ (List.getElem_mem hlk)
      obtain ⟨nm, hnm⟩ : ∃ nm, (L.getD k b0).1 = nm := ⟨_, rfl⟩
      obtain ⟨cmd, hcmd⟩ : ∃ cmd, (L.getD k b0).2 = cmd := ⟨_, rfl⟩
      obtain ⟨sn, hsn⟩ : ∃ sn, enN cmd = sn := ⟨_, rfl⟩
      rw [hnm, hcmd, hsn] at htk
      rw [hnm] at x0 hsz
      rw [hcmd] at x1
      have hsnl : sn.size ≤ 100 := by
        rw [← hsn]; unfold enN
        split
        · have := en_short cmd.toNat (by omega)
          rw [Array.length_toList] at this; exact this
        · exact Nat.zero_le _
      have N2 := below_alloc wr (.cells #[.string nm, .int .i64 cmd] 47)
      have R2 := heap_alloc_new wr (.cells #[.string nm, .int .i64 cmd] 47)
      obtain ⟨W2, hW2⟩ : ∃ W2, wr.alloc (.cells #[.string nm, .int .i64 cmd] 47) = W2 := ⟨_, rfl⟩
      rw [hW2] at N2 R2
      have NM2 : Hid (Calls Tryd.prog 14 #[.int .i64 cmd] W2 fun e w' => e = .returned (.tuple #[.string sn, .int .i64 (enE cmd)]) ∧ w' = W2) := Lib.hid (by
        have := NM.out cmd W2 (HE.out.below (seqB HB.out N2))
        rw [hsn] at this; exact this)
      have hbl : (Lib.byteCells (txB (L.take k))).length + (nm ++ ⟨#[32]⟩ ++ sn ++ ⟨#[10]⟩ : ByteArray).size ≤ 100000000 := by
        have := HL.out.1; have := HL.out.2.1
        rw [Lib.byteCells_length]
        simp only [ByteArray.size_append]
        show _ + (_ + 1 + _ + 1) ≤ _
        omega
      have hcell : Hid (Lib.byteCells (txB (L.take (k + 1))) = Lib.byteCells (txB (L.take k)) ++ Lib.strCells (nm ++ ⟨#[32]⟩ ++ sn ++ ⟨#[10]⟩)) := Lib.hid (by rw [htk, Lib.byteCells_append, row_str])
      obtain ⟨er, her⟩ : ∃ er, enE cmd = er := ⟨_, rfl⟩
      rw [her] at NM2
      have z1 : nm.size + 1 ≤ 9223372036854775807 := by omega
      have z2 : nm.size + 1 + sn.size ≤ 9223372036854775807 := by omega
      have z3 : nm.size + 1 + sn.size + 1 ≤ 9223372036854775807 := by omega
      have WR := Lib.hid (bwrite_any B B (Lib.byteCells (txB (L.take k))) (nm ++ ⟨#[32]⟩ ++ sn ++ ⟨#[10]⟩) W2 (blS_below HI.out N2) (Nat.le_trans hbl (by decide)) (Nat.le_trans HBs.out N2.size))
      have y0 := cell_of_row _ _ 0 _ _ _ R2
      have y1 := cell_of_row _ _ 1 _ _ _ R2
      dsimp at y0 y1
      have HN2 := Lib.hid (And.intro (seqB HB.out N2) (Nat.le_trans HBs.out N2.size))
      have HLT := Lib.hid hlt
      clear htk hlen hsz hnm hcmd hsn hsnl her hbl N2 R2 HI hlt
      generalize hbs : Lib.byteCells (txB (L.take k)) = bs at *
      clear hbs
      go_wp2_with fail
      go_at_call 14
      try rw [hW2]
      clear hW2
      refine NM2.out.mono ?_
      rintro e w3 ⟨rfl, rfl⟩
      go_wp2_with fail
      go_at_call 15
      try rw [hB]
      refine WR.out.mono ?_
      rintro e w4 ⟨rfl, hI4, hb4⟩
      have I4 := Lib.hid (show IsBld B B _ w4 from Or.inr hI4)
      have N4 := Lib.hid (And.intro (HN2.out.1.trans (hb4.mono HBq.out)) (Nat.le_trans HN2.out.2 hb4.size))
      clear hI4 hb4
      go_wp2_with fail
      go_roundw
      case rel => exact ⟨k + 1, by have := HLT.out; omega, by go_num, Lib.hid (by rw [hcell.out]; exact I4.out), Lib.hid N4.out.2, Lib.hid N4.out.1⟩
      case measure => (have := HLT.out; simp [intOf]; try omega)
    · obtain rfl : k = n := by omega
      rw [List.take_of_length_le (Nat.le_of_eq HL.out.1)] at HI
      have ST := Lib.hid (Tryd.Builder_String_any B B (txB L) wr HI.out HBs.out)
      have hmk : Hid ((⟨(txB L).toArray⟩ : ByteArray) = mkL (txB L)) := Lib.hid rfl
      have hkl : ¬ (k : Int) < (k : Int) := by omega
      go_wp2_with fail
      go_at_call 16
      try rw [hB]
      refine ST.out.mono ?_
      rintro e w2 ⟨rfl, hb2⟩
      have N2 := Lib.hid (HB.out.trans (hb2.mono HBq.out))
      clear hb2
      go_wp2_with fail
      go_ret
      exact ⟨rfl, N2.out⟩
end Go.Proofs.YtgnhnalaakgamaaDoor
set_option linter.unusedVariables false
set_option linter.unusedSimpArgs false
namespace Go.Proofs.YtgnhnalaakgamaaDoor
open Go.RowKit
theorem index_byteB (l : List UInt8) (c : UInt8) : Lib.index l [c] = Lib.indexByte l c := by
  induction l with
  | nil => rfl
  | cons b l ih =>
    rw [Lib.index, Lib.indexByte, ih]
    by_cases h : b = c
    · subst h; simp [List.isPrefixOf]
    · have h2 : (b == c) = false := by simpa using h
      have h3 : ([c] : List UInt8).isPrefixOf (b :: l) = false := by simp [List.isPrefixOf]; exact fun e => h e.symm
      rw [h2, h3]
theorem indexByte_rngB (l : List UInt8) (c : UInt8) : Lib.indexByte l c = -1 ∨ (0 ≤ Lib.indexByte l c ∧ Lib.indexByte l c < l.length) := by
  induction l with
  | nil => left; rfl
  | cons b l ih =>
    rw [Lib.indexByte]
    split
    · right; simp
    · split
      · left; rfl
      · rename_i h
        right
        rcases ih with h2 | h2
        · rw [h2] at h; simp at h
        · simp; omega
set_option maxHeartbeats 1000000 in
theorem bcut1_any (s : ByteArray) (w : World) (hs : s.size ≤ 1000000) : Calls Tryd.prog 42 #[.string s, .string ⟨#[32]⟩] w fun e w' => e = .returned (.tuple #[.string (mkB (Lib.cut (bL s) [32]).1), .string (mkB (Lib.cut (bL s) [32]).2.1), .bool (Lib.cut (bL s) [32]).2.2]) ∧ ∃ n, w' = w.drewN n := by
  have IX := fun w => Tryd.stringslite_Index_one s 32 w
  have hr := indexByte_rngB (bL s) 32
  rw [bL_len] at hr
  have hib : Lib.index (bL s) [32] = Lib.indexByte (bL s) 32 := index_byteB _ _
  unfold Lib.cut
  rw [hib]
  have hbl : s.data.toList = bL s := rfl
  rw [hbl] at IX
  rcases hr with h | ⟨h0, h1⟩
  · rw [h] at IX ⊢
    rw [if_neg (by decide)]
    have hm : mkB (bL s) = s := mkB_bL s
    dsimp only
    rw [hm]
    replace IX := Lib.hid IX
    clear hib hbl h hm
    go_enter Tryd.func42, Tryd.ntmps42
    go_wp2_with (go_at_call 59; refine (IX.out _).mono ?_; rintro e w1 ⟨rfl, rfl⟩)
    refine bodyPost_ret (v := .tuple #[.string s, .string ⟨#[]⟩, .bool false]) (by simp [results, Tryd.results42, go_sem]) rfl ⟨rfl, 0, rfl⟩
  · obtain ⟨i, hi⟩ := Int.eq_ofNat_of_zero_le h0
    rw [hi] at IX h1 ⊢
    rw [if_pos (by omega)]
    dsimp only
    have e1 : mkB ((bL s).take i) = s.extract 0 i := bL_inj (by rw [bL_ext, bL_mkB, List.drop_zero])
    have e2 : mkB ((bL s).drop (i + 1)) = s.extract (i + 1) s.size := bL_inj (by rw [bL_ext, bL_mkB, ← bL_len, List.take_length])
    show Calls _ _ _ _ fun e w' => e = .returned (.tuple #[.string (mkB ((bL s).take i)), .string (mkB ((bL s).drop (i + 1))), .bool true]) ∧ ∃ n, w' = w.drewN n
    rw [e1, e2]
    have hi1 : (i : Int) < s.size := h1
    have hi2 : i < s.size := by omega
    have hi3 : i + 1 ≤ s.size := by omega
    replace IX := Lib.hid IX
    clear hib hbl hi e1 e2 h1 h0
    go_enter Tryd.func42, Tryd.ntmps42
    go_wp2_with (go_at_call 59; refine (IX.out _).mono ?_; rintro e w1 ⟨rfl, rfl⟩)
    have hw1 : IntKind.i64.wrap ((i : Int) + 1) = (i : Int) + 1 := by rw [IntKind.wrap_i64]; omega
    have hw2 : (0 : Int) ≤ (i : Int) + 1 := by omega
    have hw3 : ((i : Int) + 1).toNat = i + 1 := by omega
    have hw4 : (i : Int) + 1 ≤ s.size := by omega
    go_quiet (fail)
    clear hw1 hw3
    go_wp2
    refine bodyPost_ret (v := .tuple #[.string (s.extract 0 i), .string (s.extract (i + 1) s.size), .bool true]) (by simp [results, Tryd.results42, go_sem]) rfl ⟨rfl, _, rfl⟩
set_option maxHeartbeats 1000000 in
theorem bcutB_any (s : ByteArray) (w : World) (hs : s.size ≤ 1000000) : Calls Tryd.prog 25 #[.string s, .string ⟨#[32]⟩] w fun e w' => e = .returned (.tuple #[.string (mkB (Lib.cut (bL s) [32]).1), .string (mkB (Lib.cut (bL s) [32]).2.1), .bool (Lib.cut (bL s) [32]).2.2]) ∧ ∃ n, w' = w.drewN n := by
  have C := fun w => bcut1_any s w hs
  generalize mkB (Lib.cut (bL s) [32]).1 = x at *
  generalize mkB (Lib.cut (bL s) [32]).2.1 = y at *
  generalize (Lib.cut (bL s) [32]).2.2 = z at *
  replace C := Lib.hid C
  go_enter Tryd.func25, Tryd.ntmps25
  go_wp2_with (go_at_call 42; refine (C.out _).mono ?_; rintro e w1 ⟨rfl, n, rfl⟩)
  refine bodyPost_ret (v := .tuple #[.string x, .string y, .bool z]) (by simp [results, Tryd.results25, go_sem]) rfl ⟨rfl, n, rfl⟩
theorem cbB_cut (l : List UInt8) : Lib.cut l [32] = (((cbB l).getD (l, [])).1, ((cbB l).getD (l, [])).2, (cbB l).isSome) := by
  have hi : Lib.index l [32] = Lib.indexByte l 32 := index_byteB _ _
  cases h : cbB l with
  | none =>
    have hn := cbB_none h
    have : Lib.indexByte l 32 = -1 := by
      clear h hi
      induction l with
      | nil => rfl
      | cons c l ih =>
        rw [Lib.indexByte, if_neg (by simpa using hn c List.mem_cons_self), ih (fun d hd => hn d (List.mem_cons_of_mem _ hd))]; rfl
    unfold Lib.cut
    rw [hi, this, if_neg (by decide)]; rfl
  | some p =>
    obtain ⟨a, b⟩ := p
    obtain ⟨e, ha⟩ := cbB_some h
    have : Lib.indexByte l 32 = (a.length : Int) := by rw [e]; exact ixb_at 32 a b ha
    unfold Lib.cut
    rw [hi, this, if_pos (by omega), e, Int.toNat_natCast]
    show (_, _, true) = (_, _, true)
    rw [List.take_left' rfl, show (a ++ 32 :: b).drop (a.length + [(32 : UInt8)].length) = b by
      rw [show a ++ 32 :: b = (a ++ [32]) ++ b by simp, List.drop_left' (by simp)]]
    rfl
theorem bcut_any (l : List UInt8) (w : World) (hs : l.length ≤ 1000000) : Calls Tryd.prog 25 #[.string (mkL l), .string ⟨#[32]⟩] w fun e w' => e = .returned (.tuple #[.string (mkL ((cbB l).getD (l, [])).1), .string (mkL ((cbB l).getD (l, [])).2), .bool (cbB l).isSome]) ∧ Below w.heap.size w w' := by
  refine (bcutB_any (mkL l) w (by rw [mkL_size]; exact hs)).mono ?_
  rintro e w' ⟨rfl, n, rfl⟩
  have hb : bL (mkL l) = l := rfl
  rw [hb, cbB_cut]
  exact ⟨rfl, rfl, rfl, rfl, Nat.le_refl _, fun _ _ => rfl⟩
def eiC (s : ByteArray) : Int := ((enIx s).map fun n => (n : Int)).getD 0
def eiE (s : ByteArray) : Int := if (enIx s).isSome then 0 else 6
theorem eparse_t (s : ByteArray) (w : World) (hN : EN w) : Calls Tryd.prog 27 #[.string s] w fun e w' => e = .returned (.tuple #[.int .i64 (eiC s), .int .i64 (eiE s)]) ∧ Below w.heap.size w w' := by
  cases h : enIx s with
  | none =>
    have h1 : eiC s = 0 := by unfold eiC; rw [h]; rfl
    have h2 : eiE s = 6 := by unfold eiE; rw [h]; rfl
    rw [h1, h2]
    exact eparse_no s (enIx_none h) w hN
  | some k =>
    have h1 : eiC s = k := by unfold eiC; rw [h]; rfl
    have h2 : eiE s = 0 := by unfold eiE; rw [h]; rfl
    rw [h1, h2]
    exact eparse_yes k (enIx_some h).1 s (enIx_some h).2 w hN
/-- What a line says. -/
def plE (l : List UInt8) : Int := if (lbB l).isSome then 0 else 10
def plK (l : List UInt8) : Ky := ((lbB l).map (·.1)).getD k0
def plC (l : List UInt8) : Int := ((lbB l).map fun p => (p.2 : Int)).getD 0
theorem pl_of (l a b : List UInt8) (ob : Bool) (h : (cbB l).getD (l, []) = (a, b)) (ho : (cbB l).isSome = ob) :
    (ob = true → prE a = 0 → eiE (mkL b) = 0 → plE l = 0 ∧ plK l = prK a ∧ plC l = eiC (mkL b)) ∧ (¬ (ob = true ∧ prE a = 0 ∧ eiE (mkL b) = 0) → plE l = 10 ∧ plK l = k0 ∧ plC l = 0) := by
  obtain ⟨v, hv⟩ : ∃ v, lbB l = v := ⟨_, rfl⟩
  unfold plE plK plC
  rw [hv]
  unfold lbB at hv
  cases hc : cbB l with
  | none =>
    rw [hc] at ho hv
    subst ho
    subst hv
    exact ⟨fun e => (by cases e), fun _ => ⟨rfl, rfl, rfl⟩⟩
  | some p =>
    rw [hc] at ho h hv
    obtain ⟨a', b'⟩ := p
    obtain ⟨rfl, rfl⟩ : a' = a ∧ b' = b := by
      have h : (a', b') = (a, b) := h
      exact ⟨congrArg Prod.fst h, congrArg Prod.snd h⟩
    subst ho
    have hv : (if prE a' = 0 then (enIx (mkL b')).map fun c => (prK a', c) else none) = v := hv
    by_cases hp : prE a' = 0
    · rw [if_pos hp] at hv
      unfold eiE eiC
      cases he : enIx (mkL b') with
      | none =>
        rw [he] at hv
        subst hv
        refine ⟨fun _ _ h => ?_, fun _ => ⟨rfl, rfl, rfl⟩⟩
        simp at h
      | some k =>
        rw [he] at hv
        subst hv
        exact ⟨fun _ _ _ => ⟨rfl, rfl, rfl⟩, fun h => absurd ⟨rfl, hp, rfl⟩ h⟩
    · rw [if_neg hp] at hv
      subst hv
      exact ⟨fun _ h => absurd h hp, fun _ => ⟨rfl, rfl, rfl⟩⟩
def PlPost (l : List UInt8) (w : World) (e : Ending) (w' : World) : Prop := e = .returned (.tuple #[.agg #[.int .i64 (plK l).1, .int .i64 (plK l).2.1, .string (plK l).2.2.1, .bool (plK l).2.2.2], .int .i64 (plC l), .int .i64 (plE l)]) ∧ Below w.heap.size w w'
set_option maxRecDepth 100000 in
set_option maxHeartbeats 4000000 in
theorem bline_any (l : List UInt8) (w : World) (hs : l.length ≤ 900000) (hK : KT w) (hE : EN w) : Calls Tryd.prog 13 #[.string (mkL l)] w (PlPost l w) := by
  obtain ⟨⟨a, b⟩, hab⟩ : ∃ p, (cbB l).getD (l, []) = p := ⟨_, rfl⟩
  obtain ⟨ob, hob⟩ : ∃ ob, (cbB l).isSome = ob := ⟨_, rfl⟩
  have hpl := pl_of l a b ob hab hob
  have hal : a.length ≤ 900000 := by
    cases hc : cbB l with
    | none => rw [hc] at hab; have := congrArg Prod.fst hab; rw [← show l = a from this]; exact hs
    | some p =>
      rw [hc] at hab
      have e : p = (a, b) := hab
      subst e
      have := (cbB_some hc).1
      rw [this, List.length_append] at hs
      omega
  have b0 := below_alloc w (.cells #[.int .i64 0, .int .i64 0, .string ⟨#[]⟩, .bool false] 34)
  have r0 := heap_alloc_new w (.cells #[.int .i64 0, .int .i64 0, .string ⟨#[]⟩, .bool false] 34)
  obtain ⟨W, hW⟩ : ∃ W, w.alloc (.cells #[.int .i64 0, .int .i64 0, .string ⟨#[]⟩, .bool false] 34) = W := ⟨_, rfl⟩
  rw [hW] at b0 r0
  have C0 := bcut_any l W (by omega)
  rw [hab, hob] at C0
  obtain ⟨er, her⟩ : ∃ er, prE a = er := ⟨_, rfl⟩
  obtain ⟨⟨kd, kv, kt, kc⟩, hk⟩ : ∃ k, prK a = k := ⟨_, rfl⟩
  obtain ⟨ef, hef⟩ : ∃ ef, eiE (mkL b) = ef := ⟨_, rfl⟩
  obtain ⟨ec, hec⟩ : ∃ ec, eiC (mkL b) = ec := ⟨_, rfl⟩
  have CT := Lib.hid C0
  have KP := Lib.hid fun w hK => kparse_t (mkL a) w hK (by rw [mkL_size]; exact hal) (kd, kv, kt, kc) er hk her
  have EP := Lib.hid fun w hE => eparse_t (mkL b) w hE
  rw [hec, hef] at EP
  rw [hk, her, hef, hec] at hpl
  obtain ⟨sa, hsa⟩ : ∃ sa, mkL a = sa := ⟨_, rfl⟩
  obtain ⟨sb, hsb⟩ : ∃ sb, mkL b = sb := ⟨_, rfl⟩
  obtain ⟨sl, hsl⟩ : ∃ sl, mkL l = sl := ⟨_, rfl⟩
  rw [hsa, hsb, hsl] at CT
  rw [hsa] at KP
  rw [hsb] at EP
  rw [hsl]
  dsimp only at KP
  have R0 := Lib.hid r0
  have N0 := Lib.hid b0
  have HK := Lib.hid hK
  have HE := Lib.hid hE
  have HP := Lib.hid hpl
  clear hpl hab hob hal b0 r0 C0 her hk hef hec hsa hsb hsl hs hK hE
  go_enter Tryd.func13, Tryd.ntmps13
  go_wp2_with fail
  go_at_call 25
  try rw [hW]
  clear hW
  refine CT.out.mono ?_
  rintro e w1 ⟨rfl, hb1⟩
  have N1 := Lib.hid (seqB N0.out hb1)
  have R1 := Lib.hid (blk_below R0.out hb1)
  clear hb1
  go_wp2_with fail
  go_at_call 26
  refine (KP.out _ (HK.out.below N1.out)).mono ?_
  rintro e w2 ⟨rfl, hb2⟩
  have hb3 := below_alloc w2 (.cells #[.int .i64 kd, .int .i64 kv, .string kt, .bool kc] 34)
  have hr3 := heap_alloc_new w2 (.cells #[.int .i64 kd, .int .i64 kv, .string kt, .bool kc] 34)
  obtain ⟨W3, hW3⟩ : ∃ W3, w2.alloc (.cells #[.int .i64 kd, .int .i64 kv, .string kt, .bool kc] 34) = W3 := ⟨_, rfl⟩
  rw [hW3] at hb3 hr3
  have N3 := Lib.hid (seqB N1.out (seqB hb2 hb3))
  have R3 := Lib.hid (blk_below R1.out (seqB hb2 hb3))
  have Q3 := Lib.hid hr3
  have HZ := Lib.hid (show w.heap.size < w2.heap.size from Nat.lt_of_lt_of_le (blk_lt R1.out) hb2.size)
  clear hb2 hb3 hr3
  go_wp2_with fail
  go_at_call 27
  try rw [hW3]
  clear hW3
  refine (EP.out _ (HE.out.below N3.out)).mono ?_
  rintro e w4 ⟨rfl, hb4⟩
  have N4 := Lib.hid (seqB N3.out hb4)
  have R4 := Lib.hid (blk_below R3.out hb4)
  have Q4 := Lib.hid (blk_below Q3.out hb4)
  clear hb4
  have x0 := cell_of_row _ _ 0 _ _ _ R4.out
  have x1 := cell_of_row _ _ 1 _ _ _ R4.out
  have x2 := cell_of_row _ _ 2 _ _ _ R4.out
  have x3 := cell_of_row _ _ 3 _ _ _ R4.out
  have f0 := frozen_of_row _ _ 0 _ _ R4.out
  have f1 := frozen_of_row _ _ 1 _ _ R4.out
  have f2 := frozen_of_row _ _ 2 _ _ R4.out
  have f3 := frozen_of_row _ _ 3 _ _ R4.out
  have y0 := cell_of_row _ _ 0 _ _ _ Q4.out
  have y1 := cell_of_row _ _ 1 _ _ _ Q4.out
  have y2 := cell_of_row _ _ 2 _ _ _ Q4.out
  have y3 := cell_of_row _ _ 3 _ _ _ Q4.out
  dsimp at x0 x1 x2 x3 y0 y1 y2 y3
  by_cases hgood : ob = true ∧ er = 0 ∧ ef = 0
  · have HZ2 := Lib.hid (HP.out.1 hgood.1 hgood.2.1 hgood.2.2)
    obtain ⟨rfl, rfl, rfl⟩ := hgood
    go_wp2_with fail
    refine bodyPost_ret (v := .tuple #[.agg #[.int .i64 kd, .int .i64 kv, .string kt, .bool kc], .int .i64 ec, .int .i64 0]) ?_ rfl ?_
    · simp [results, Tryd.results13, go_sem]
      go_simp
    · unfold PlPost
      rw [HZ2.out.1, HZ2.out.2.1, HZ2.out.2.2]
      exact ⟨rfl, ((((N4.out.setCell (p := ⟨w.heap.size, 0, none⟩) (Nat.le_refl _) _).setCell (p := ⟨w.heap.size, 1, none⟩) (Nat.le_refl _) _).setCell (p := ⟨w.heap.size, 2, none⟩) (Nat.le_refl _) _).setCell (p := ⟨w.heap.size, 3, none⟩) (Nat.le_refl _) _)⟩
  · have HZ2 := Lib.hid (HP.out.2 hgood)
    have hcase : ob = false ∨ (ob = true ∧ ((er == 0) = false ∧ ¬ er = 0)) ∨ (ob = true ∧ er = 0 ∧ ((ef == 0) = false ∧ ¬ ef = 0)) := by
      cases ob with
      | false => exact .inl rfl
      | true =>
        by_cases h1 : er = 0
        · by_cases h2 : ef = 0
          · exact absurd ⟨rfl, h1, h2⟩ hgood
          · exact .inr (.inr ⟨rfl, h1, beq_eq_false_iff_ne.2 h2, h2⟩)
        · exact .inr (.inl ⟨rfl, beq_eq_false_iff_ne.2 h1, h1⟩)
    clear hgood HP
    rcases hcase with rfl | ⟨rfl, hc1, hc2⟩ | ⟨rfl, rfl, hc1, hc2⟩
    · go_wp2_with fail
      refine bodyPost_ret (v := .tuple #[.agg #[.int .i64 0, .int .i64 0, .string ⟨#[]⟩, .bool false], .int .i64 0, .int .i64 10]) ?_ rfl ?_
      · simp [results, Tryd.results13, go_sem]
        go_simp
      · unfold PlPost
        rw [HZ2.out.1, HZ2.out.2.1, HZ2.out.2.2]
        exact ⟨rfl, ((((N4.out.setCell (p := ⟨w.heap.size, 0, none⟩) (Nat.le_refl _) _).setCell (p := ⟨w.heap.size, 1, none⟩) (Nat.le_refl _) _).setCell (p := ⟨w.heap.size, 2, none⟩) (Nat.le_refl _) _).setCell (p := ⟨w.heap.size, 3, none⟩) (Nat.le_refl _) _)⟩
    · go_wp2_with fail
      refine bodyPost_ret (v := .tuple #[.agg #[.int .i64 0, .int .i64 0, .string ⟨#[]⟩, .bool false], .int .i64 0, .int .i64 10]) ?_ rfl ?_
      · simp [results, Tryd.results13, go_sem]
        go_simp
      · unfold PlPost
        rw [HZ2.out.1, HZ2.out.2.1, HZ2.out.2.2]
        exact ⟨rfl, ((((N4.out.setCell (p := ⟨w.heap.size, 0, none⟩) (Nat.le_refl _) _).setCell (p := ⟨w.heap.size, 1, none⟩) (Nat.le_refl _) _).setCell (p := ⟨w.heap.size, 2, none⟩) (Nat.le_refl _) _).setCell (p := ⟨w.heap.size, 3, none⟩) (Nat.le_refl _) _)⟩
    · go_wp2_with fail
      refine bodyPost_ret (v := .tuple #[.agg #[.int .i64 0, .int .i64 0, .string ⟨#[]⟩, .bool false], .int .i64 0, .int .i64 10]) ?_ rfl ?_
      · simp [results, Tryd.results13, go_sem]
        go_simp
      · unfold PlPost
        rw [HZ2.out.1, HZ2.out.2.1, HZ2.out.2.2]
        exact ⟨rfl, ((((N4.out.setCell (p := ⟨w.heap.size, 0, none⟩) (Nat.le_refl _) _).setCell (p := ⟨w.heap.size, 1, none⟩) (Nat.le_refl _) _).setCell (p := ⟨w.heap.size, 2, none⟩) (Nat.le_refl _) _).setCell (p := ⟨w.heap.size, 3, none⟩) (Nat.le_refl _) _)⟩
end Go.Proofs.YtgnhnalaakgamaaDoor
set_option linter.unusedVariables false
set_option linter.unusedSimpArgs false
namespace Go.Proofs.YtgnhnalaakgamaaDoor
open Go.RowKit
theorem prB_skip {P : List (List UInt8)} {k : Nat} {L : List BRow} (hk : k < P.length) (h : lbN (P.getD k []) = true) : prB (P.drop k) L = prB (P.drop (k + 1)) L := by
  rw [List.drop_eq_getElem_cons hk]
  rw [List.getD, List.getElem?_eq_getElem hk] at h
  have h : lbN P[k] = true := h
  conv => lhs; unfold prB
  rw [if_pos h]
theorem prB_none {P : List (List UInt8)} {k : Nat} {L : List BRow} (hk : k < P.length) (h : lbN (P.getD k []) = false) (hb : lbB (P.getD k []) = none) : prB (P.drop k) L = ([], 10) := by
  rw [List.drop_eq_getElem_cons hk]
  rw [List.getD, List.getElem?_eq_getElem hk] at h hb
  have h : lbN P[k] = false := h
  have hb : lbB P[k] = none := hb
  unfold prB
  rw [if_neg (by rw [h]; decide), hb]
theorem prB_some {P : List (List UInt8)} {k : Nat} {L : List BRow} {q : Ky} {c : Nat} (hk : k < P.length) (h : lbN (P.getD k []) = false) (hb : lbB (P.getD k []) = some (q, c)) : prB (P.drop k) L = if bdE q c = 0 then prB (P.drop (k + 1)) (bput L (mkS (nmR q)) c) else ([], bdE q c) := by
  rw [List.drop_eq_getElem_cons hk]
  rw [List.getD, List.getElem?_eq_getElem hk] at h hb
  have h : lbN P[k] = false := h
  have hb : lbB P[k] = some (q, c) := hb
  conv => lhs; unfold prB
  rw [if_neg (by rw [h]; decide), hb]
theorem nil_toList : (mkL []).toList = [] := by
  unfold mkL ByteArray.toList
  rw [ByteArray.toList.loop]
  rfl
def PbPost (l : List UInt8) (w : World) (e : Ending) (w' : World) : Prop := ∃ a n c, e = .returned (.tuple #[.agg #[.slice a n c], .int .i64 (prB (pcB 10 l) []).2]) ∧ (prB (pcB 10 l) []).1.length = n ∧ OwB w' w.heap.size (.slice a n c) (prB (pcB 10 l) []).1 ∧ Below w.heap.size w w'
theorem pfx35 (p : List UInt8) (h : p ≠ []) : Lib.hasPrefix p [35] = lbN p := by
  cases p with
  | nil => exact absurd rfl h
  | cons c p =>
    have : (c == 35) = (35 == c) := by rw [Bool.eq_iff_iff, beq_iff_eq, beq_iff_eq]; exact eq_comm
    simp [lbN, Lib.hasPrefix, List.isPrefixOf, this]
theorem PcI.set {w : World} {g : Nat} {P : List (List UInt8)} (h : PcI w g P) {p : Addr} (hp : p.block < g) (u : Value) : PcI (w.setCell p u) g P :=
  ⟨by simpa [World.setCell] using h.1, fun i hi => by
    rw [← h.2 i hi]
    have hk : (w.setCell p u).heap[g]? = w.heap[g]? := Below.heap_setCell w p u g (by omega)
    unfold World.cell?; rw [hk]⟩
set_option maxRecDepth 100000 in
set_option maxHeartbeats 8000000 in
theorem bparse_any (l : List UInt8) (w : World) (hs : l.length ≤ 900000) (hp : (pcB 10 l).length ≤ 800) (hK : KT w) (hE : EN w) : Calls Tryd.prog 5 #[.string (mkL l)] w (PbPost l w) := by
  obtain ⟨P, hP⟩ : ∃ P, pcB 10 l = P := ⟨_, rfl⟩
  have hPm := pcB_mem 10 l
  unfold PbPost
  rw [hP] at hp hPm ⊢
  obtain ⟨⟨RL, re⟩, hR⟩ : ∃ R, prB P [] = R := ⟨_, rfl⟩
  rw [hR]
  have b1 := below_alloc w (.cells #[.slice none 0 0] 25)
  have r1 := heap_alloc_new w (.cells #[.slice none 0 0] 25)
  have s1 : (w.alloc (.cells #[.slice none 0 0] 25)).heap.size = w.heap.size + 1 := by simp
  have b2 := below_alloc (w.alloc (.cells #[.slice none 0 0] 25)) (.cells #[.slice none 0 0] 25)
  have r2 := heap_alloc_new (w.alloc (.cells #[.slice none 0 0] 25)) (.cells #[.slice none 0 0] 25)
  have s2 : ((w.alloc (.cells #[.slice none 0 0] 25)).alloc (.cells #[.slice none 0 0] 25)).heap.size = w.heap.size + 1 + 1 := by simp
  rw [s1] at r2
  have r1' := blk_below r1 b2
  have b12 := seqB b1 b2
  obtain ⟨W, hW⟩ : ∃ W, (w.alloc (.cells #[.slice none 0 0] 25)).alloc (.cells #[.slice none 0 0] 25) = W := ⟨_, rfl⟩
  rw [hW] at r2 r1' b12 s2
  have q2 := cell_of_row _ _ 0 _ _ _ r2
  have f2 := frozen_of_row _ _ 0 _ _ r2
  dsimp at q2
  have r1' := blk_far r1' (p := ⟨w.heap.size + 1, 0, none⟩) (by show w.heap.size ≠ w.heap.size + 1; omega) (.slice none 0 0)
  have r2 := heap_setCell_same W (w.heap.size + 1) 0 _ _ (.slice none 0 0) r2
  have b12 := b12.setCell (p := ⟨w.heap.size + 1, 0, none⟩) (by show w.heap.size ≤ w.heap.size + 1; omega) (.slice none 0 0)
  have s2 : (W.setCell ⟨w.heap.size + 1, 0, none⟩ (.slice none 0 0)).heap.size = w.heap.size + 1 + 1 := by simpa [World.setCell] using s2
  obtain ⟨W1, hW1⟩ : ∃ W1, W.setCell ⟨w.heap.size + 1, 0, none⟩ (.slice none 0 0) = W1 := ⟨_, rfl⟩
  rw [hW1] at r1' r2 b12 s2
  have r2 : W1.heap[w.heap.size + 1]? = some (.cells #[.slice none 0 0] 25 (0, 0)) := r2
  have SP0 := splitb_any 10 l W1 (by omega)
  rw [hP] at SP0
  have SP := Lib.hid SP0
  clear SP0
  have RA := Lib.hid r1'
  have RB := Lib.hid r2
  have N0 := Lib.hid b12
  have HS2 := Lib.hid s2
  have HK := Lib.hid hK
  have HE := Lib.hid hE
  have HP := Lib.hid (And.intro hp (And.intro hPm hs))
  have HR := Lib.hid hR
  obtain ⟨sl, hsl⟩ : ∃ sl, mkL l = sl := ⟨_, rfl⟩
  rw [hsl] at SP ⊢
  clear b1 r1 s1 b2 r2 s2 r1' b12 hp hPm hs hR hP hsl hK hE
  obtain ⟨np, hnp⟩ : ∃ np, P.length = np := ⟨_, rfl⟩
  rw [hnp] at SP HP
  have HNP := Lib.hid hnp
  clear hnp
  go_enter Tryd.func5, Tryd.ntmps5
  go_wp2_with fail
  go_step3
  go_wp2_with fail
  go_step3
  go_wp2_with fail
  go_at_call 11
  try rw [hW]
  try rw [hW1]
  clear hW hW1 q2 f2
  refine SP.out.mono ?_
  rintro e w2 ⟨rfl, hpc, hb⟩
  have PC := Lib.hid hpc
  have NI := Lib.hid (seqB N0.out hb)
  have RA2 := Lib.hid (blk_below RA.out hb)
  have RB2 := Lib.hid (blk_below RB.out hb)
  have OI : Hid (OwB w2 (w.heap.size + 1 + 1) (.slice none 0 0) []) := Lib.hid (owb_nil _ _)
  clear hpc hb SP RA RB
  generalize W1.heap.size = g at *
  go_upto_region 3 with fail
  go_loopw [14] (fun iv wr => ∃ (k : Nat) (L : List BRow) (a : Option Addr) (n c : Nat), k ≤ np ∧ iv = .int .i64 (k : Int) ∧ Hid (prB (P.drop k) L = (RL, re)) ∧ Hid (L.length = n ∧ n ≤ k ∧ Srt L) ∧ Hid (OwB wr (w.heap.size + 1 + 1) (.slice a n c) L) ∧ Hid (wr.heap[w.heap.size]? = some (.cells #[.slice none 0 0] 25 (0, 0))) ∧ Hid (wr.heap[w.heap.size + 1]? = some (.cells #[.slice a n c] 25 (0, 0))) ∧ Hid (Below w.heap.size w wr) ∧ Hid (PcI wr g P)) (fun iv _ => np - (intOf iv).toNat)
  case atStart => exact ⟨0, [], none, 0, 0, Nat.zero_le _, rfl, HR, Lib.hid ⟨rfl, Nat.le_refl _, List.Pairwise.nil⟩, OI, RA2, RB2, NI, PC⟩
  case round =>
    obtain ⟨k, L, a, n, c, hk, rfl, HQ, HL, HO, QA, QB, HB, HC⟩ := hrel
    clear RA2 RB2 NI PC OI
    have hn8 := HP.out.1
    by_cases hlt : k < np
    · have hk1 : (k : Int) < (np : Int) := by omega
      have hk0 : (0 : Int) ≤ (k : Int) := by omega
      have hkP : k < P.length := by rw [HNP.out]; exact hlt
      have x0 := HC.out.2 k hkP
      obtain ⟨p, hp⟩ : ∃ p, P.getD k [] = p := ⟨_, rfl⟩
      rw [hp] at x0
      have HX := Lib.hid (And.intro hlt (And.intro hkP hp))
      have HPL : Hid (p.length ≤ 900000) := Lib.hid (by
        have := HP.out.2.1 p (by rw [← hp, List.getD, List.getElem?_eq_getElem hkP]; exact List.getElem_mem hkP)
        have := HP.out.2.2; omega)
      clear hlt hkP hp
      have hse : ∀ b : Bool, (b = true ↔ p = []) → (mkL p).toList.isEmpty = b := fun b h => by
        cases b with
        | true => rw [h.1 rfl, nil_toList]; rfl
        | false =>
          cases hh : (mkL p).toList.isEmpty with
          | false => rfl
          | true =>
            exfalso
            have hp0 : ¬ p = [] := fun e => by have := h.2 e; cases this
            refine bba_ne (p := mkL p) (p' := mkL []) (fun e => hp0 ?_) (by rw [List.isEmpty_iff.1 hh, nil_toList])
            have := congrArg (fun s => s.data.toList) e
            exact this
      obtain ⟨sp, hsp⟩ : ∃ sp, mkL p = sp := ⟨_, rfl⟩
      rw [hsp] at x0 hse
      have HSP := Lib.hid hsp
      clear hsp
      by_cases hp0 : p = []
      · have he1 := hse true ⟨fun _ => hp0, fun _ => rfl⟩
        subst hp0
        clear hse
        have HN : Hid (prB (P.drop (k + 1)) L = (RL, re)) := Lib.hid (by rw [← prB_skip HX.out.2.1 (by rw [HX.out.2.2]; rfl)]; exact HQ.out)
        go_wp2_with fail
        go_roundw
        case rel => exact ⟨k + 1, L, a, n, c, by have := HX.out.1; omega, by go_num, HN, Lib.hid ⟨HL.out.1, by have := HL.out.2.1; omega, HL.out.2.2⟩, HO, QA, QB, HB, HC⟩
        case measure => (have := HX.out.1; simp [intOf]; try omega)
      · have he1 := hse false ⟨fun h => (by cases h), fun h => absurd h hp0⟩
        clear hse
        have PF : Hid (Calls Tryd.prog 12 #[.string sp, .string ⟨#[35]⟩] wr fun e w' => e = .returned (.bool (lbN p)) ∧ w' = wr) := Lib.hid (by
          refine (Tryd.strings_HasPrefix sp ⟨#[35]⟩ wr).mono ?_
          rintro e w' ⟨rfl, rfl⟩
          refine ⟨?_, rfl⟩
          rw [← pfx35 p hp0, ← HSP.out]; rfl)
        clear hp0
        obtain ⟨bn, hbn⟩ : ∃ bn, lbN p = bn := ⟨_, rfl⟩
        rw [hbn] at PF
        have HBN := Lib.hid hbn
        clear hbn
        go_wp2_with fail
        go_at_call 12
        refine PF.out.mono ?_
        rintro e w3 ⟨rfl, rfl⟩
        cases bn with
        | true =>
          have HN : Hid (prB (P.drop (k + 1)) L = (RL, re)) := Lib.hid (by rw [← prB_skip HX.out.2.1 (by rw [HX.out.2.2]; exact HBN.out)]; exact HQ.out)
          go_wp2_with fail
          go_roundw
          case rel => exact ⟨k + 1, L, a, n, c, by have := HX.out.1; omega, by go_num, HN, Lib.hid ⟨HL.out.1, by have := HL.out.2.1; omega, HL.out.2.2⟩, HO, QA, QB, HB, HC⟩
          case measure => (have := HX.out.1; simp [intOf]; try omega)
        | false =>
          have PL : Hid (Calls Tryd.prog 13 #[.string sp] w3 (PlPost p w3)) := Lib.hid (by rw [← HSP.out]; exact bline_any p w3 HPL.out (HK.out.below HB.out) (HE.out.below HB.out))
          unfold PlPost at PL
          obtain ⟨⟨kd, kv, kt, kc⟩, hk4⟩ : ∃ q, plK p = q := ⟨_, rfl⟩
          obtain ⟨ec, hec⟩ : ∃ ec, plC p = ec := ⟨_, rfl⟩
          obtain ⟨er, her⟩ : ∃ er, plE p = er := ⟨_, rfl⟩
          rw [hk4, hec, her] at PL
          dsimp only at PL
          have HE4 := Lib.hid (And.intro hk4 (And.intro hec her))
          clear hk4 hec her
          go_wp2_with fail
          go_at_call 13
          refine PL.out.mono ?_
          rintro e w4 ⟨rfl, hb4⟩
          have hb5 := below_alloc w4 (.cells #[.int .i64 kd, .int .i64 kv, .string kt, .bool kc] 34)
          have hr5 := heap_alloc_new w4 (.cells #[.int .i64 kd, .int .i64 kv, .string kt, .bool kc] 34)
          have hB5 := seqB hb4 hb5
          have hz4 := hb4.size
          obtain ⟨W5, hW5⟩ : ∃ W5, w4.alloc (.cells #[.int .i64 kd, .int .i64 kv, .string kt, .bool kc] 34) = W5 := ⟨_, rfl⟩
          rw [hW5] at hr5 hB5
          have N5 := Lib.hid (seqB HB.out hB5)
          have QA5 := Lib.hid (blk_below QA.out hB5)
          have QB5 := Lib.hid (blk_below QB.out hB5)
          have HO5 := Lib.hid (rowb_below HO.out hB5)
          have HC5 := Lib.hid (HC.out.below hB5)
          have QK5 := Lib.hid hr5
          clear hb4 hb5 hr5 hB5 hz4
          have a0 := cell_of_row _ _ 0 _ _ _ QA5.out
          have g0 := frozen_of_row _ _ 0 _ _ QA5.out
          dsimp at a0
          by_cases her0 : er = 0
          · subst her0
            obtain ⟨q, cc, hlb⟩ : ∃ q cc, lbB p = some (q, cc) := by
              have h := HE4.out.2.2
              unfold plE at h
              cases hh : lbB p with
              | none => rw [hh] at h; exact absurd h (by decide)
              | some v => exact ⟨v.1, v.2, rfl⟩
            obtain rfl : q = (kd, kv, kt, kc) := by
              have h := HE4.out.1
              unfold plK at h
              rw [hlb] at h; exact h
            obtain rfl : (cc : Int) = ec := by
              have h := HE4.out.2.1
              unfold plC at h
              rw [hlb] at h; exact h
            have hrr := prB_some (L := L) HX.out.2.1 (by rw [HX.out.2.2]; exact HBN.out) (by rw [HX.out.2.2]; exact hlb)
            have hq := HQ.out
            rw [hrr] at hq
            have BB0 := bbind_any L a n c (w.heap.size + 1 + 1) (kd, kv, kt, kc) cc W5 HO5.out HL.out.1 (by have := HL.out.2.1; omega) HL.out.2.2 (HK.out.below N5.out) (HE.out.below N5.out)
            unfold BbPost bdL at BB0
            obtain ⟨eb, heb⟩ : ∃ eb, bdE (kd, kv, kt, kc) cc = eb := ⟨_, rfl⟩
            obtain ⟨M, hM⟩ : ∃ M, bput L (mkS (nmR (kd, kv, kt, kc))) (cc : Int) = M := ⟨_, rfl⟩
            have hMl : M.length ≤ n + 1 ∧ Srt M := by
              rw [← hM]
              refine ⟨?_, bput_srt L _ _ HL.out.2.2⟩
              have := bput_len L (mkS (nmR (kd, kv, kt, kc))) (cc : Int)
              rw [HL.out.1] at this; exact this
            rw [heb, hM] at BB0 hq
            dsimp only at BB0
            have BB := Lib.hid BB0
            have HQ6 := Lib.hid (And.intro hq hMl)
            clear hrr hq hlb BB0 heb hM hMl
            have k0 := cell_of_row _ _ 0 _ _ _ QK5.out
            have k1 := cell_of_row _ _ 1 _ _ _ QK5.out
            have k2 := cell_of_row _ _ 2 _ _ _ QK5.out
            have k3 := cell_of_row _ _ 3 _ _ _ QK5.out
            have b0 := cell_of_row _ _ 0 _ _ _ QB5.out
            dsimp at k0 k1 k2 k3 b0
            go_wp2_with fail
            go_at_call 9
            try rw [hW5]
            clear hW5 a0 g0 k0 k1 k2 k3 b0
            refine BB.out.mono ?_
            rintro e w6 ⟨a6, n6, c6, rfl, hl6, ho6, hb6⟩
            have N6 := Lib.hid (seqB N5.out hb6)
            have QA6 := blk_below QA5.out hb6
            have QB6 := blk_below QB5.out hb6
            have HC6 := Lib.hid (HC5.out.below hb6)
            have hz5 : w.heap.size + 1 < W5.heap.size := blk_lt QB5.out
            have y1 := cell_of_row _ _ 0 _ _ _ QB6
            have g1 := frozen_of_row _ _ 0 _ _ QB6
            dsimp at y1
            have QA7 := blk_far QA6 (p := ⟨w.heap.size + 1, 0, none⟩) (by show w.heap.size ≠ w.heap.size + 1; omega) (.slice a6 n6 c6)
            have QB7 : (w6.setCell ⟨w.heap.size + 1, 0, none⟩ (.slice a6 n6 c6)).heap[w.heap.size + 1]? = some (.cells #[.slice a6 n6 c6] 25 (0, 0)) := heap_setCell_same w6 (w.heap.size + 1) 0 _ _ (.slice a6 n6 c6) QB6
            have N7 := Lib.hid (N6.out.setCell (p := ⟨w.heap.size + 1, 0, none⟩) (by show w.heap.size ≤ w.heap.size + 1; omega) (.slice a6 n6 c6))
            have O7 := Lib.hid (OwB.base (B' := w.heap.size + 1 + 1) (ownsRow_setCell_below ho6 (a := ⟨w.heap.size + 1, 0, none⟩) hz5 (.slice a6 n6 c6)) hz5)
            have C7 : Hid (PcI (w6.setCell ⟨w.heap.size + 1, 0, none⟩ (.slice a6 n6 c6)) g P) := Lib.hid (HC6.out.set (by have := HS2.out; show w.heap.size + 1 < g; omega) _)
            have HL6 := Lib.hid hl6
            have a7 := cell_of_row _ _ 0 _ _ _ QA7
            have g7 := frozen_of_row _ _ 0 _ _ QA7
            dsimp at a7
            have QA8 := Lib.hid QA7
            have QB8 := Lib.hid QB7
            clear hl6 ho6 hb6 QA6 QB6 hz5 QA7 QB7 N6 HC6
            by_cases heb : eb = 0
            · subst heb
              rw [if_pos rfl] at HQ6 O7 HL6
              go_wp2_with fail
              go_roundw
              case rel => exact ⟨k + 1, M, a6, n6, c6, by have := HX.out.1; omega, by go_num, Lib.hid HQ6.out.1, Lib.hid ⟨HL6.out, by have := HQ6.out.2.1; have := HL6.out; have := HL.out.2.1; omega, HQ6.out.2.2⟩, O7, QA8, QB8, N7, C7⟩
              case measure => (have := HX.out.1; simp [intOf]; try omega)
            · have heb1 : (eb == 0) = false := beq_eq_false_iff_ne.2 heb
              have hrl : RL = [] ∧ re = eb := by
                have h := HQ6.out.1
                rw [if_neg heb] at h
                exact ⟨(congrArg Prod.fst h).symm, (congrArg Prod.snd h).symm⟩
              have HRL := Lib.hid hrl
              clear hrl
              go_wp2_with fail
              try rw [Exit.noGoto_ret]
              refine bodyPost_ret (v := .tuple #[.agg #[.slice none 0 0], .int .i64 eb]) ?_ rfl ⟨none, 0, 0, ?_, ?_, ?_, ?_⟩
              · rw [results_cell_tmp rfl]; go_simp
              · rw [HRL.out.2]
              · rw [HRL.out.1]; rfl
              · rw [HRL.out.1]; exact owb_nil _ _
              · exact bd_box N7.out (Nat.le_refl _) _
          · have her1 : (er == 0) = false := beq_eq_false_iff_ne.2 her0
            have hlb : lbB p = none := by
              have h := HE4.out.2.2
              unfold plE at h
              cases hh : lbB p with
              | none => rfl
              | some v => rw [hh] at h; exact absurd h.symm her0
            have hrr : prB (P.drop k) L = ([], 10) := prB_none HX.out.2.1 (by rw [HX.out.2.2]; exact HBN.out) (by rw [HX.out.2.2]; exact hlb)
            have hrl : RL = [] ∧ re = er := by
              rw [hrr] at HQ
              have e1 := HQ.out
              have h := HE4.out.2.2
              unfold plE at h
              rw [hlb] at h
              have h : (10 : Int) = er := h
              exact ⟨(congrArg Prod.fst e1).symm, by rw [← h]; exact (congrArg Prod.snd e1).symm⟩
            have HRL := Lib.hid hrl
            clear hrl hrr hlb
            go_wp2_with fail
            rw [Exit.noGoto_ret]
            refine bodyPost_ret (v := .tuple #[.agg #[.slice none 0 0], .int .i64 er]) ?_ rfl ⟨none, 0, 0, ?_, ?_, ?_, ?_⟩
            · rw [results_cell_tmp rfl]; go_simp
            · rw [HRL.out.2]
            · rw [HRL.out.1]; rfl
            · rw [HRL.out.1]; exact owb_nil _ _
            · exact bd_box N5.out (Nat.le_refl _) _
    · obtain rfl : k = np := by omega
      have hfin : L = RL ∧ 0 = re := by
        have h := HQ.out
        rw [List.drop_of_length_le (Nat.le_of_eq HNP.out)] at h
        exact ⟨congrArg Prod.fst h, congrArg Prod.snd h⟩
      have HF := Lib.hid hfin
      have a0 := cell_of_row _ _ 0 _ _ _ QA.out
      have a1 := cell_of_row _ _ 0 _ _ _ QB.out
      have g0 := frozen_of_row _ _ 0 _ _ QA.out
      have hkl : ¬ (k : Int) < (k : Int) := by omega
      dsimp at a0 a1
      clear hfin
      go_wp2_with fail
      try rw [Exit.noGoto_ret]
      refine bodyPost_ret (v := .tuple #[.agg #[.slice a n c], .int .i64 0]) ?_ rfl ⟨a, n, c, ?_, ?_, ?_, ?_⟩
      · rw [results_cell_tmp rfl]; go_simp
      · rw [HF.out.2]
      · rw [← HF.out.1]; exact HL.out.1
      · rw [← HF.out.1]
        exact OwB.base (ownsRow_setCell_below HO.out (a := ⟨w.heap.size, 0, none⟩) (by show w.heap.size < w.heap.size + 1 + 1; omega) _) (by omega)
      · exact bd_box HB.out (Nat.le_refl _) _
end Go.Proofs.YtgnhnalaakgamaaDoor
set_option linter.unusedVariables false
set_option linter.unusedSimpArgs false
namespace Go.Proofs.YtgnhnalaakgamaaDoor
open Go.RowKit
def awS1 : List UInt8 := [35, 32, 120, 10, 67, 45, 111, 32, 117, 110, 100, 111, 10, 10, 77, 45, 122, 32, 114, 101, 100, 111, 10, 67, 45, 111, 32, 107, 105, 108, 108, 45, 97, 108, 108, 10]
def awS2 : List UInt8 := [67, 45, 111, 32, 32, 117, 110, 100, 111, 10]
def awL0 : List BRow := (prB (pcB 10 awS1) []).1
def awK : Ky := (2, 15, ⟨#[]⟩, false)
def awK1 : Ky := (2, 1, ⟨#[]⟩, false)
def awL1 : List BRow := bdL awL0 awK 22
theorem aw_len : (pcB 10 awS1).length ≤ 800 ∧ (pcB 10 awS2).length ≤ 800 := by decide +kernel
theorem aw_1 : (prB (pcB 10 awS1) []).2 = 0 ∧ awL0.length = 2 ∧ awL1.length = 2 ∧ (prB (pcB 10 awS2) []).2 = 10 ∧ bdE awK 22 = 0 := by decide +kernel
theorem aw_2 : bcD awL0 awK = 14 ∧ bcD awL1 awK = 22 ∧ bcD awL0 awK1 = 6 ∧ decide (awL0 = awL1) = false := by decide +kernel
theorem aw_3 : txB awL0 = [67, 45, 111, 32, 107, 105, 108, 108, 45, 97, 108, 108, 10, 77, 45, 122, 32, 114, 101, 100, 111, 10] := by decide +kernel
theorem aw_srt : Srt awL0 ∧ Srt awL1 := by unfold Srt; decide +kernel
theorem aw_sz : ∀ x ∈ awL0, x.1.size ≤ 1000 := by decide +kernel
theorem aw_text : mkL (txB awL0) = ⟨#[67, 45, 111, 32, 107, 105, 108, 108, 45, 97, 108, 108, 10, 77, 45, 122, 32, 114, 101, 100, 111, 10]⟩ := by rw [aw_3]; rfl
theorem aw_p1 (w : World) (hK : KT w) (hE : EN w) : Calls Tryd.prog 5 #[.string ⟨#[35, 32, 120, 10, 67, 45, 111, 32, 117, 110, 100, 111, 10, 10, 77, 45, 122, 32, 114, 101, 100, 111, 10, 67, 45, 111, 32, 107, 105, 108, 108, 45, 97, 108, 108, 10]⟩] w fun e w' => ∃ a c, e = .returned (.tuple #[.agg #[.slice a 2 c], .int .i64 0]) ∧ OwB w' w.heap.size (.slice a 2 c) awL0 ∧ Below w.heap.size w w' := by
  refine (bparse_any awS1 w (by decide) aw_len.1 hK hE).mono ?_
  rintro e w' ⟨a, n, c, rfl, hn, ho, hb⟩
  obtain rfl : 2 = n := aw_1.2.1.symm.trans hn
  exact ⟨a, c, by rw [aw_1.1], ho, hb⟩
theorem aw_p2 (w : World) (hK : KT w) (hE : EN w) : Calls Tryd.prog 5 #[.string ⟨#[67, 45, 111, 32, 32, 117, 110, 100, 111, 10]⟩] w fun e w' => ∃ a n c, e = .returned (.tuple #[.agg #[.slice a n c], .int .i64 10]) ∧ Below w.heap.size w w' := by
  refine (bparse_any awS2 w (by decide) aw_len.2 hK hE).mono ?_
  rintro e w' ⟨a, n, c, rfl, hn, ho, hb⟩
  exact ⟨a, n, c, by rw [aw_1.2.2.2.1], hb⟩
theorem aw_b (a : Option Addr) (c B0 : Nat) (w : World) (h0 : OwB w B0 (.slice a 2 c) awL0) (hK : KT w) (hE : EN w) :
    Calls Tryd.prog 9 #[.agg #[.slice a 2 c], .agg #[.int .i64 2, .int .i64 15, .string ⟨#[]⟩, .bool false], .int .i64 22] w fun e w' => ∃ a' c', e = .returned (.tuple #[.agg #[.slice a' 2 c'], .int .i64 0]) ∧ OwB w' w.heap.size (.slice a' 2 c') awL1 ∧ Below w.heap.size w w' := by
  refine (bbind_any awL0 a 2 c B0 awK 22 w h0 aw_1.2.1 (by omega) aw_srt.1 hK hE).mono ?_
  rintro e w' ⟨a', n', c', rfl, hn, ho, hb⟩
  obtain rfl : 2 = n' := aw_1.2.2.1.symm.trans hn
  exact ⟨a', c', by rw [aw_1.2.2.2.2], ho, hb⟩
theorem aw_c (L : List BRow) (k : Ky) (v : Int) (a : Option Addr) (c B0 : Nat) (w : World) (h0 : OwB w B0 (.slice a 2 c) L) (hn : L.length = 2) (hs : Srt L) (hK : KT w) (hv : bcD L k = v) :
    Calls Tryd.prog 10 #[.agg #[.slice a 2 c], (.agg #[.int .i64 k.1, .int .i64 k.2.1, .string k.2.2.1, .bool k.2.2.2])] w fun e w' => e = .returned (.int .i64 v) ∧ Below w.heap.size w w' := by
  subst hv; exact bcmd_any L a 2 c B0 k w h0 hn (by omega) hs hK
/-- A box of bindings: it stays. -/
structure BxB (w : World) (B0 g : Nat) (a : Option Addr) (n c : Nat) (L : List BRow) : Prop where
  b : w.heap[g]? = some (.cells #[.slice a n c] 25 (0, 0))
  o : OwB w B0 (.slice a n c) L
theorem BxB.below {w w' : World} {B0 g : Nat} {a : Option Addr} {n c : Nat} {L : List BRow} (h : BxB w B0 g a n c L) (hb : Below w.heap.size w w') : BxB w' B0 g a n c L := ⟨blk_below h.b hb, rowb_below h.o hb⟩
theorem BxB.cell {w : World} {B0 g : Nat} {a : Option Addr} {n c : Nat} {L : List BRow} (h : BxB w B0 g a n c L) : w.cell? ⟨g, 0, none⟩ = some (.slice a n c) := cell_of_row _ _ 0 _ _ _ h.b
set_option maxRecDepth 100000 in
set_option maxHeartbeats 8000000 in
theorem bawake_any (w : World) (hK : KT w) (hE : EN w) : Calls Tryd.prog 4 #[] w fun e w' => e = .returned (.bool true) ∧ Below w.heap.size w w' := by
  have P1 := Lib.hid (aw_p1 w hK hE)
  have HK := Lib.hid hK
  have HE := Lib.hid hE
  clear hK hE
  go_enter Tryd.func4, Tryd.ntmps4
  go_wp2_with fail
  go_at_call 5
  refine P1.out.mono ?_
  rintro e w1 ⟨a1, c1, rfl, ho1, hb1⟩
  have hb2 := below_alloc w1 (.cells #[.slice a1 2 c1] 25)
  have hb3 := below_alloc (w1.alloc (.cells #[.slice a1 2 c1] 25)) (.cells #[.int .i64 2, .int .i64 15, .string ⟨#[]⟩, .bool false] 34)
  have X1 : BxB (w1.alloc (.cells #[.slice a1 2 c1] 25)) w.heap.size w1.heap.size a1 2 c1 awL0 := ⟨heap_alloc_new w1 _, rowb_below ho1 hb2⟩
  have hk3 := heap_alloc_new (w1.alloc (.cells #[.slice a1 2 c1] 25)) (.cells #[.int .i64 2, .int .i64 15, .string ⟨#[]⟩, .bool false] 34)
  have hz3 : (w1.alloc (.cells #[.slice a1 2 c1] 25)).heap.size = w1.heap.size + 1 := by simp
  rw [hz3] at hk3
  have X3 := X1.below hb3
  have N3 := seqB (seqB hb1 hb2) hb3
  obtain ⟨W3, hW3⟩ : ∃ W3, (w1.alloc (.cells #[.slice a1 2 c1] 25)).alloc (.cells #[.int .i64 2, .int .i64 15, .string ⟨#[]⟩, .bool false] 34) = W3 := ⟨_, rfl⟩
  rw [hW3] at hk3 X3 N3
  obtain ⟨g1, hg1⟩ : ∃ g1, w1.heap.size = g1 := ⟨_, rfl⟩
  rw [hg1] at hk3 X3
  have HX3 := Lib.hid X3
  have HN3 := Lib.hid N3
  have HQ3 := Lib.hid hk3
  have BB := Lib.hid (aw_b a1 c1 w.heap.size W3 X3.o (HK.out.below N3) (HE.out.below N3))
  have x0 := X3.cell
  have k0 := cell_of_row _ _ 0 _ _ _ hk3
  have k1 := cell_of_row _ _ 1 _ _ _ hk3
  have k2 := cell_of_row _ _ 2 _ _ _ hk3
  have k3 := cell_of_row _ _ 3 _ _ _ hk3
  dsimp at k0 k1 k2 k3
  clear ho1 hb1 hb2 hb3 X1 hk3 hz3 X3 N3
  have HW3 := Lib.hid hW3
  clear hW3 x0 k0 k1 k2 k3
  go_upto_region 3 with fail
  rw [HW3.out]
  have x0 := HX3.out.cell
  have k0 := cell_of_row _ _ 0 _ _ _ HQ3.out
  have k1 := cell_of_row _ _ 1 _ _ _ HQ3.out
  have k2 := cell_of_row _ _ 2 _ _ _ HQ3.out
  have k3 := cell_of_row _ _ 3 _ _ _ HQ3.out
  dsimp at k0 k1 k2 k3
  go_wp2_with fail
  go_at_call 9
  clear x0 k0 k1 k2 k3
  refine BB.out.mono ?_
  rintro e w4 ⟨a4, c4, rfl, ho4, hb4⟩
  have hb5 := below_alloc w4 (.cells #[.slice a4 2 c4] 25)
  have Y4 : BxB (w4.alloc (.cells #[.slice a4 2 c4] 25)) W3.heap.size w4.heap.size a4 2 c4 awL1 := ⟨heap_alloc_new w4 _, rowb_below ho4 hb5⟩
  have HX5 := HX3.out.below (seqB hb4 hb5)
  have HQ5 := blk_below HQ3.out (seqB hb4 hb5)
  have HN5 := seqB HN3.out (seqB hb4 hb5)
  obtain ⟨W5, hW5⟩ : ∃ W5, w4.alloc (.cells #[.slice a4 2 c4] 25) = W5 := ⟨_, rfl⟩
  rw [hW5] at Y4 HX5 HQ5 HN5
  obtain ⟨g4, hg4⟩ : ∃ g4, w4.heap.size = g4 := ⟨_, rfl⟩
  rw [hg4] at Y4
  have P2 := Lib.hid (aw_p2 W5 (HK.out.below HN5) (HE.out.below HN5))
  have HY5 := Lib.hid Y4
  have HX5 := Lib.hid HX5
  have HQ5 := Lib.hid HQ5
  have HN5 := Lib.hid HN5
  clear ho4 hb4 hb5 Y4
  go_wp2_with fail
  go_at_call 5
  try rw [hW5]
  clear hW5
  refine P2.out.mono ?_
  rintro e w6 ⟨a6, n6, c6, rfl, hb6⟩
  have hb7 := below_alloc w6 (.cells #[.slice a6 n6 c6] 25)
  have hb67 := seqB hb6 hb7
  obtain ⟨W7, hW7⟩ : ∃ W7, w6.alloc (.cells #[.slice a6 n6 c6] 25) = W7 := ⟨_, rfl⟩
  rw [hW7] at hb67
  have HX7 := Lib.hid (HX5.out.below hb67)
  have HY7 := Lib.hid (HY5.out.below hb67)
  have HQ7 := Lib.hid (blk_below HQ5.out hb67)
  have HN7 := Lib.hid (seqB HN5.out hb67)
  clear hb6 hb7 hb67
  have x0 := HX7.out.cell
  go_wp2_with fail
  go_at_call 6
  try rw [hW7]
  clear hW7
  refine (blen_any a1 2 c1 W7).mono ?_
  rintro e w8 ⟨rfl, hb8⟩
  have HX8 := Lib.hid (HX7.out.below hb8)
  have HY8 := Lib.hid (HY7.out.below hb8)
  have HQ8 := Lib.hid (blk_below HQ7.out hb8)
  have HN8 := Lib.hid (seqB HN7.out hb8)
  clear hb8 x0
  have x0 := HX8.out.cell
  have k0 := cell_of_row _ _ 0 _ _ _ HQ8.out
  have k1 := cell_of_row _ _ 1 _ _ _ HQ8.out
  have k2 := cell_of_row _ _ 2 _ _ _ HQ8.out
  have k3 := cell_of_row _ _ 3 _ _ _ HQ8.out
  dsimp at k0 k1 k2 k3
  go_wp2_with fail
  go_at_call 10
  refine (aw_c awL0 awK 14 a1 c1 _ w8 HX8.out.o aw_1.2.1 aw_srt.1 (HK.out.below HN8.out) aw_2.1).mono ?_
  rintro e w9 ⟨rfl, hb9⟩
  have HX9 := Lib.hid (HX8.out.below hb9)
  have HY9 := Lib.hid (HY8.out.below hb9)
  have HQ9 := Lib.hid (blk_below HQ8.out hb9)
  have HN9 := Lib.hid (seqB HN8.out hb9)
  clear hb9 x0 k0 k1 k2 k3
  have y0 := HY9.out.cell
  have k0 := cell_of_row _ _ 0 _ _ _ HQ9.out
  have k1 := cell_of_row _ _ 1 _ _ _ HQ9.out
  have k2 := cell_of_row _ _ 2 _ _ _ HQ9.out
  have k3 := cell_of_row _ _ 3 _ _ _ HQ9.out
  dsimp at k0 k1 k2 k3
  go_wp2_with fail
  go_at_call 10
  refine (aw_c awL1 awK 22 a4 c4 _ w9 HY9.out.o aw_1.2.2.1 aw_srt.2 (HK.out.below HN9.out) aw_2.2.1).mono ?_
  rintro e w10 ⟨rfl, hb10⟩
  have HX10 := Lib.hid (HX9.out.below hb10)
  have HY10 := Lib.hid (HY9.out.below hb10)
  have HN10 := Lib.hid (seqB HN9.out hb10)
  clear hb10 y0 k0 k1 k2 k3
  have x0 := HX10.out.cell
  go_wp2_with fail
  go_at_call 7
  refine (btext_any awL0 a1 2 c1 _ w10 HX10.out.o aw_1.2.1 (by omega) aw_sz (HE.out.below HN10.out)).mono ?_
  rintro e w11 ⟨rfl, hb11⟩
  rw [aw_text]
  have HX11 := Lib.hid (HX10.out.below hb11)
  have HY11 := Lib.hid (HY10.out.below hb11)
  have HN11 := Lib.hid (seqB HN10.out hb11)
  clear hb11 x0
  have x0 := HX11.out.cell
  have y0 := HY11.out.cell
  go_wp2_with fail
  go_at_call 8
  refine (bsame_any awL0 awL1 a1 a4 2 2 c1 c4 _ _ w11 HX11.out.o aw_1.2.1 HY11.out.o aw_1.2.2.1 (by omega) (by omega)).mono ?_
  rintro e w12 ⟨rfl, hb12⟩
  rw [aw_2.2.2.2]
  have HX12 := Lib.hid (HX11.out.below hb12)
  have HN12 := Lib.hid (seqB HN11.out hb12)
  clear hb12 x0 y0
  have x0 := HX12.out.cell
  go_wp2_with fail
  go_at_call 10
  refine (aw_c awL0 awK1 6 a1 c1 _ w12 HX12.out.o aw_1.2.1 aw_srt.1 (HK.out.below HN12.out) aw_2.2.2.1).mono ?_
  rintro e w13 ⟨rfl, hb13⟩
  have HN13 := Lib.hid (seqB HN12.out hb13)
  clear hb13 x0
  go_wp2_with fail
  go_ret
  exact ⟨rfl, HN13.out⟩
end Go.Proofs.YtgnhnalaakgamaaDoor
