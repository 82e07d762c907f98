/-
  Joined: Bd1 Bd2 Bd3 E1.
-/
import Derived.Test.YtgnhnalaakgamaaDoorJB03
import Derived.Test.YtgnhnalaakgamaaDoorShelf
import Derived.Deep.OwnRows
import Derived.OwnWalk
import Derived.Deep.Cut
import Derived.Deep.CutRange
import Derived.Test.YtgnhnalaakgamaaDoorRows
import Derived.Lib.OthersKept
import Derived.Handy
import Derived.WalkSpells
import Derived.WalkLawsBesides
set_option linter.unusedVariables false
set_option linter.unusedSimpArgs false
set_option maxRecDepth 100000
set_option linter.unusedVariables false
set_option linter.unusedSimpArgs false
namespace Go.Proofs.YtgnhnalaakgamaaDoor
open Go.RowKit
/-- A binding: the key's name, the command. -/
abbrev BRow := ByteArray × Int
def bC (L : List BRow) : List Value := L.flatMap fun q => [Value.string q.1, Value.int .i64 q.2]
def b0 : BRow := (⟨#[]⟩, 0)
theorem bC_at (L : List BRow) : ∀ i, i < L.length → (bC L)[i * 2]? = some (.string (L.getD i b0).1) ∧ (bC L)[i * 2 + 1]? = some (.int .i64 (L.getD i b0).2) := by
  induction L with
  | nil => intro i hi; simp at hi
  | cons x L ih =>
    intro i hi
    cases i with
    | zero => exact ⟨rfl, rfl⟩
    | succ i =>
      have h := ih i (by simpa using hi)
      rw [show (i + 1) * 2 = i * 2 + 1 + 1 by omega]
      exact h
theorem bC_len (L : List BRow) : (bC L).length = L.length * 2 := by
  unfold bC
  induction L with
  | nil => rfl
  | cons x L ih => simp only [List.flatMap_cons, List.length_append, List.length_cons, List.length_nil, ih]; omega
theorem bC_app (a b : List BRow) : bC (a ++ b) = bC a ++ bC b := by simp [bC]
theorem bC_one (l : List BRow) : ∀ u ∈ bC l, u.oneCell' = true := by
  intro u hu
  unfold bC at hu
  rw [List.mem_flatMap] at hu
  obtain ⟨p, _, hp⟩ := hu
  simp at hp
  rcases hp with rfl | rfl <;> rfl
/-- A row of bindings of the call's own. -/
def OwB (w : World) (B : Nat) (v : Value) (L : List BRow) : Prop := w.ownsRow B 47 2 v L.length (bC L)
theorem owb_nil (w : World) (B : Nat) : OwB w B (.slice none 0 0) [] := World.ownsRow_nil _ _ _ _
theorem bytesBr : ∃ b, (Tryd.prog.info? 47).map (fun i => (i.zero, i.size, i.bytes)) = some (some (.agg #[.string ⟨#[]⟩, .int .i64 0]), 2, b) ∧ 1 ≤ b ∧ b ≤ 64 := ⟨24, by kernel_rfl, by decide, by decide⟩
theorem OwB.form {w : World} {B : Nat} {v : Value} {L : List BRow} {n : Nat} (h : OwB w B v L) (hn : L.length = n) : ∃ a c, v = .slice a n c := by
  subst hn
  rcases h.2 with ⟨rfl, h0⟩ | ⟨g, cap, cur, rfl, _⟩
  · exact ⟨none, 0, by rw [h0]⟩
  · exact ⟨_, cap, rfl⟩
/-- A binding of the row: its two cells. -/
theorem OwB.cell {w : World} {B n : Nat} {a : Option Addr} {c : Nat} {L : List BRow} (h : OwB w B (.slice a n c) L) (hn : L.length = n) (i : Nat) (hi : i < n) :
    ∃ g, a = some ⟨g, 0, none⟩ ∧ w.cell? ⟨g, i * 2, none⟩ = some (.string (L.getD i b0).1) ∧ w.cell? ⟨g, i * 2 + 1, none⟩ = some (.int .i64 (L.getD i b0).2) := by
  subst hn
  rcases h.2 with ⟨e, h0⟩ | ⟨g, cap, cur, e, _, hg, _⟩
  · omega
  · injection e with e1 e2 e3
    subst e1; subst e3
    have := bC_at L i hi
    refine ⟨g, rfl, ?_, ?_⟩
    · rw [World.ownsRow.cellAt h (i * 2) (by omega)]; exact this.1
    · rw [World.ownsRow.cellAt h (i * 2 + 1) (by omega)]; exact this.2
/-- What a binding's name compares as with a name. -/
theorem bcmp_any (nm s : ByteArray) (cmd : Int) (w : World) : Calls Tryd.prog 32 #[.agg #[.string nm, .int .i64 cmd], .string s] w fun e w' => e = .returned (.int .i64 (Lib.compareBytes nm.data.toList s.data.toList)) ∧ Below w.heap.size w w' := by
  have CM := Lib.hid (Tryd.strings_Compare nm s (w.alloc (.cells #[.string nm, .int .i64 cmd] 47)))
  have HB := Lib.hid (below_alloc w (.cells #[.string nm, .int .i64 cmd] 47))
  have z0 := cell_of_row _ _ 0 _ _ _ (heap_alloc_new w (.cells #[.string nm, .int .i64 cmd] 47))
  dsimp at z0
  go_enter Tryd.func32, Tryd.ntmps32
  go_wp2_with (go_at_call 33; refine CM.out.mono ?_; rintro e w1 ⟨rfl, h1⟩; subst h1)
  go_ret
  exact ⟨rfl, HB.out⟩
/-- The function that finds a name's place. -/
theorem bfinder_any (s : ByteArray) (w : World) : Calls Tryd.prog 19 #[.string s] w fun e w' => ∃ q, e = .returned (.func (.func 30) #[] #[.pointer (some ⟨q, 0, none⟩)]) ∧ w'.cell? ⟨q, 0, none⟩ = some (.string s) ∧ Below w.heap.size w w' := by
  have hmf : ∀ (fn : Fn) (first cap : Array Value) (w : World), (Instr.makeFunc fn first cap).run Tryd.prog w = .ok (.func fn first cap) w := fun _ _ _ _ => rfl
  have HB := Lib.hid (below_alloc w (.cells #[.string s] 9))
  have HR := Lib.hid (cell_of_row _ _ 0 _ _ _ (heap_alloc_new w (.cells #[.string s] 9)))
  go_enter Tryd.func19, Tryd.ntmps19
  go_wp2
  go_ret
  exact ⟨_, rfl, HR.out, HB.out⟩
end Go.Proofs.YtgnhnalaakgamaaDoor
set_option linter.unusedVariables false
set_option linter.unusedSimpArgs false
namespace Go.Proofs.YtgnhnalaakgamaaDoor
open Go.RowKit
theorem rowb_below {w w' : World} {B : Nat} {v : Value} {L : List BRow} (h : OwB w B v L) (hb : Below w.heap.size w w') : OwB w' B v L := by
  refine ⟨h.1, ?_⟩
  rcases h.2 with hn | ⟨g, cap, cur, rfl, hB, hg, rest⟩
  · exact .inl hn
  · exact .inr ⟨g, cap, cur, rfl, hB, (hb.block g (World.ownsRow.lt h g rfl).2).trans hg, rest⟩
/-- What the i-th name compares as. -/
def bcm (L : List BRow) (s : ByteArray) (i : Nat) : Int := Lib.compareBytes (L.getD i b0).1.data.toList s.data.toList
set_option maxHeartbeats 4000000 in
theorem bsearch_any (L : List BRow) (s : ByteArray) (a : Option Addr) (n c B : Nat) (w : World) (h : OwB w B (.slice a n c) L) (hn : L.length = n) (hl : n ≤ 1000) (hmono : ∀ i j, i ≤ j → j < n → bcm L s j < 0 → bcm L s i < 0) :
    Calls Tryd.prog 31 #[.slice a n c, .string s, .func (.func 32) #[] #[]] w fun e w' => ∃ (k : Nat) (bb : Bool), k ≤ n ∧ (∀ i, i < k → bcm L s i < 0) ∧ (∀ i, k ≤ i → i < n → 0 ≤ bcm L s i) ∧ (bb = true ↔ k < n ∧ bcm L s k = 0) ∧ e = .returned (.tuple #[.int .i64 (k : Nat), .bool bb]) ∧ Below w.heap.size w w' := by
  have H := Lib.hid h; have HN := Lib.hid hn; have HM := Lib.hid hmono; have HL := Lib.hid hl
  clear h hn hmono hl
  go_enter Tryd.func31, Tryd.ntmps31
  go_upto_region 3 with fail
  go_loopw [9, 10] (fun iv jv wr => ∃ i j : Nat, iv = .int .i64 (i : Int) ∧ jv = .int .i64 (j : Int) ∧ i ≤ j ∧ j ≤ n ∧ (∀ x, x < i → bcm L s x < 0) ∧ (∀ x, j ≤ x → x < n → 0 ≤ bcm L s x) ∧ Hid (Below w.heap.size w wr)) (fun iv jv _ => (intOf jv).toNat - (intOf iv).toNat)
  case atStart => exact ⟨0, n, rfl, rfl, Nat.zero_le _, Nat.le_refl _, fun x hx => absurd hx (Nat.not_lt_zero _), fun x h1 h2 => absurd h2 (by omega), Lib.hid (Below.refl _ _)⟩
  case round =>
    obtain ⟨i, j, rfl, rfl, hij, hjn, hlo, hhi, HB⟩ := hrel
    have hn1000 := HL.out
    by_cases hlt : i < j
    · have hlt' : (i : Int) < (j : Int) := by omega
      obtain ⟨m, hm⟩ : ∃ m, (i + j) / 2 = m := ⟨_, rfl⟩
      have hm1 : i ≤ m := by omega
      have hm2 : m < j := by omega
      have hmn : m < n := by omega
      have hmi : ((i : Int) + (j : Int)) / 2 = (m : Int) := by omega
      have HW : Hid (OwB wr B (.slice a n c) L) := Lib.hid (rowb_below H.out HB.out)
      obtain ⟨g, ha, x0, x1⟩ := OwB.cell HW.out HN.out m hmn
      subst ha
      have CM := Lib.hid (bcmp_any (L.getD m b0).1 s (L.getD m b0).2 wr)
      obtain ⟨q, hq⟩ : ∃ q, Lib.compareBytes (L.getD m b0).1.data.toList s.data.toList = q := ⟨_, rfl⟩
      have hq2 : bcm L s m = q := hq
      rw [hq] at CM
      generalize L.getD m b0 = e0 at *
      obtain ⟨nm, cmd⟩ := e0
      dsimp at x0 x1
      have hmi1 : (m : Int) < (n : Int) := by omega
      have hmi0 : (0 : Int) ≤ (m : Int) := by omega
      have HQ := Lib.hid hq2
      have HI := Lib.hid hm1; have HJ := Lib.hid hm2; have HMN := Lib.hid hmn
      have HLO := Lib.hid hlo; have HHI := Lib.hid hhi
      clear hq hq2 hm hm1 hm2 hlo hhi hmn
      go_upto_region 5 with fail
      clear hmi hlt'
      by_cases hneg : q < 0
      · go_wp2_with (go_at_call 32; refine CM.out.mono ?_; rintro e w1 ⟨rfl, hb⟩; have B1 := Lib.hid hb; clear hb)
        go_roundw
        case rel => exact ⟨m + 1, j, by go_num, rfl, by have := HJ.out; omega, hjn, fun x hx => HM.out x m (by omega) HMN.out (by rw [HQ.out]; exact hneg), HHI.out, Lib.hid (seqB HB.out B1.out)⟩
        case measure => (have := HI.out; have := HJ.out; simp [intOf]; try omega)
      · have hnn := hneg
        go_wp2_with (go_at_call 32; refine CM.out.mono ?_; rintro e w1 ⟨rfl, hb⟩; have B1 := Lib.hid hb; clear hb)
        go_roundw
        case rel => exact ⟨i, m, rfl, rfl, HI.out, by have := HMN.out; omega, HLO.out, fun x hx hxn => Int.not_lt.1 (fun hc => (Int.not_lt.2 hnn) (by rw [← HQ.out]; exact HM.out m x hx hxn hc)), Lib.hid (seqB HB.out B1.out)⟩
        case measure => (have := HI.out; have := HJ.out; simp [intOf]; try omega)
    · obtain rfl : i = j := by omega
      have HLO := Lib.hid hlo; have HHI := Lib.hid hhi
      clear hlo hhi
      by_cases hin : i < n
      · have HW : Hid (OwB wr B (.slice a n c) L) := Lib.hid (rowb_below H.out HB.out)
        obtain ⟨g, ha, x0, x1⟩ := OwB.cell HW.out HN.out i hin
        subst ha
        have CM := Lib.hid (bcmp_any (L.getD i b0).1 s (L.getD i b0).2 wr)
        obtain ⟨q, hq⟩ : ∃ q, Lib.compareBytes (L.getD i b0).1.data.toList s.data.toList = q := ⟨_, rfl⟩
        have hq2 : bcm L s i = q := hq
        rw [hq] at CM
        generalize L.getD i b0 = e0 at *
        obtain ⟨nm, cmd⟩ := e0
        dsimp at x0 x1
        have hi1 : (i : Int) < (n : Int) := by omega
        have hi0 : (0 : Int) ≤ (i : Int) := by omega
        have HQ := Lib.hid hq2
        have HI := Lib.hid hin; have HJ := Lib.hid hjn
        clear hq hq2 hin hjn hij
        go_wp2_with (go_at_call 32; refine CM.out.mono ?_; rintro e w1 ⟨rfl, hb⟩; have B1 := Lib.hid hb; clear hb)
        refine bodyPost_ret (results_tmp2 rfl _ _ _) rfl ?_
        exact ⟨i, q == 0, HJ.out, HLO.out, HHI.out, by rw [HQ.out]; simp [HI.out], rfl, seqB HB.out B1.out⟩
      · have hi1 : ¬ (i : Int) < (n : Int) := by omega
        have HD := Lib.hid hin; have HJ := Lib.hid hjn
        clear hin hjn hij
        go_wp2
        refine bodyPost_ret (results_tmp2 rfl _ _ _) rfl ?_
        exact ⟨i, HJ.out, HLO.out, HHI.out, Or.inl ⟨fun h => absurd h HD.out, rfl, HB.out⟩⟩
end Go.Proofs.YtgnhnalaakgamaaDoor
set_option linter.unusedVariables false
set_option linter.unusedSimpArgs false
namespace Go.Proofs.YtgnhnalaakgamaaDoor
open Go.RowKit
theorem bfind_any (L : List BRow) (s : ByteArray) (a : Option Addr) (n c B q : Nat) (w : World) (h : OwB w B (.slice a n c) L) (hn : L.length = n) (hl : n ≤ 1000) (hmono : ∀ i j, i ≤ j → j < n → bcm L s j < 0 → bcm L s i < 0) (hq : w.cell? ⟨q, 0, none⟩ = some (.string s)) :
    Calls Tryd.prog 30 #[.slice a n c, .pointer (some ⟨q, 0, none⟩)] w fun e w' => ∃ (k : Nat) (bb : Bool), k ≤ n ∧ (∀ i, i < k → bcm L s i < 0) ∧ (∀ i, k ≤ i → i < n → 0 ≤ bcm L s i) ∧ (bb = true ↔ k < n ∧ bcm L s k = 0) ∧ e = .returned (.tuple #[.int .i64 (k : Nat), .bool bb]) ∧ Below w.heap.size w w' := by
  have BS := Lib.hid (bsearch_any L s a n c B w h hn hl hmono)
  clear h hn hl hmono
  go_enter Tryd.func30, Tryd.ntmps30
  go_wp2_with (go_at_call 31; refine BS.out.mono ?_; rintro e w1 ⟨k, bb, h1, h2, h3, h4, rfl, hb⟩; have R := Lib.hid (And.intro h1 (And.intro h2 (And.intro h3 h4))); have B1 := Lib.hid hb; clear h1 h2 h3 h4 hb)
  refine bodyPost_ret (results_tmp2 rfl _ _ _) rfl ?_
  exact ⟨k, bb, R.out.1, R.out.2.1, R.out.2.2.1, R.out.2.2.2, rfl, B1.out⟩
theorem blen_any (a : Option Addr) (n c : Nat) (w : World) : Calls Tryd.prog 6 #[.agg #[.slice a n c]] w fun e w' => e = .returned (.int .i64 (n : Nat)) ∧ Below w.heap.size w w' := by
  have HB := Lib.hid (below_alloc w (.cells #[.slice a n c] 25))
  have z0 := cell_of_row _ _ 0 _ _ _ (heap_alloc_new w (.cells #[.slice a n c] 25))
  dsimp at z0
  go_enter Tryd.func6, Tryd.ntmps6
  go_wp2
  go_ret
  exact ⟨rfl, HB.out⟩
end Go.Proofs.YtgnhnalaakgamaaDoor
set_option linter.unusedVariables false
set_option linter.unusedSimpArgs false
namespace Go.Proofs.YtgnhnalaakgamaaDoor
open Go.RowKit
theorem ret_boolU {a b : Bool} (h : a = b) : Ending.returned (.bool a) = .returned (.bool b) := by rw [h]
theorem infoByte : (Tryd.prog.info? 5).map (fun i => (i.zero, i.size, i.bytes)) = some (some (.int .u8 0), 1, 1) := by kernel_rfl
/-- A row of ints that can be read. -/
def Row (w : World) (a : Option Addr) (l : List Int) : Prop := ∀ j, j < l.length → ∃ b off, a = some ⟨b, off, none⟩ ∧ w.cell? ⟨b, off + j, none⟩ = some (.int .i64 (l.getD j 0)) ∧ b < w.heap.size
theorem Row.below {w w' : World} {a : Option Addr} {l : List Int} (h : Row w a l) (hb : Below w.heap.size w w') : Row w' a l := by
  intro j hj
  obtain ⟨b, off, ha, hc, hlt⟩ := h j hj
  exact ⟨b, off, ha, (hb.cell (p := ⟨b, off + j, none⟩) hlt).trans hc, Nat.lt_of_lt_of_le hlt hb.size⟩
theorem stray_any (v : Int) (w : World) : Calls Tryd.prog 79 #[.int .i64 v] w fun e w' => e = .returned (.bool (stB v)) ∧ w' = w := by
  have e1 := stB_iff v
  by_cases h1 : 1114240 ≤ v
  · by_cases h2 : v ≤ 1114367
    · have H := Lib.hid (e1.2 ⟨h1, h2⟩); clear e1
      go_enter Tryd.func79, Tryd.ntmps79
      go_wp2
      go_ret
      exact ⟨ret_boolU H.out.symm, rfl⟩
    · have H : Hid (stB v = false) := Lib.hid (by rw [← Bool.not_eq_true]; intro h; exact h2 (e1.1 h).2); clear e1
      go_enter Tryd.func79, Tryd.ntmps79
      go_wp2
      go_ret
      exact ⟨ret_boolU H.out.symm, rfl⟩
  · have H : Hid (stB v = false) := Lib.hid (by rw [← Bool.not_eq_true]; intro h; exact h1 (e1.1 h).1); clear e1
    go_enter Tryd.func79, Tryd.ntmps79
    go_wp2
    go_ret
    exact ⟨ret_boolU H.out.symm, rfl⟩
theorem point_any (v : Int) (w : World) : Calls Tryd.prog 77 #[.int .i64 v] w fun e w' => e = .returned (.bool (ptB v)) ∧ w' = w := by
  have e1 := ptB_iff v
  have hf : ¬ ((0 ≤ v ∧ v < 55296) ∨ (57343 < v ∧ v ≤ 1114111)) → ptB v = false := by intro h; rw [← Bool.not_eq_true]; intro h2; exact h (e1.1 h2)
  by_cases h1 : 0 ≤ v
  · by_cases h2 : v ≤ 1114111
    · by_cases h3 : v < 55296
      · have H := Lib.hid (e1.2 (Or.inl ⟨h1, h3⟩)); clear e1 hf
        go_enter Tryd.func77, Tryd.ntmps77
        go_wp2
        go_ret
        exact ⟨ret_boolU H.out.symm, rfl⟩
      · by_cases h4 : 57343 < v
        · have H := Lib.hid (e1.2 (Or.inr ⟨h4, h2⟩)); clear e1 hf
          go_enter Tryd.func77, Tryd.ntmps77
          go_wp2
          go_ret
          exact ⟨ret_boolU H.out.symm, rfl⟩
        · have h5 : decide (57343 < v) = false := decide_eq_false h4
          have H := Lib.hid (hf (by omega)); clear e1 hf
          go_enter Tryd.func77, Tryd.ntmps77
          go_wp2
          go_ret
          exact ⟨ret_boolU H.out.symm, rfl⟩
    · have H := Lib.hid (hf (by omega)); clear e1 hf
      go_enter Tryd.func77, Tryd.ntmps77
      go_wp2
      go_ret
      exact ⟨ret_boolU H.out.symm, rfl⟩
  · have H := Lib.hid (hf (by omega)); clear e1 hf
    go_enter Tryd.func77, Tryd.ntmps77
    go_wp2
    go_ret
    exact ⟨ret_boolU H.out.symm, rfl⟩
def rightB (v : Int) : Bool := ptB v || stB v
theorem right_any (v : Int) (w : World) : Calls Tryd.prog 68 #[.int .i64 v] w fun e w' => e = .returned (.bool (rightB v)) ∧ w' = w := by
  have P := Lib.hid (fun w => point_any v w)
  have S := Lib.hid (fun w => stray_any v w)
  have e0 : rightB v = (ptB v || stB v) := rfl
  generalize stB v = s at *
  cases h : ptB v
  · rw [h] at P e0
    have H := Lib.hid e0; clear e0 h
    go_enter Tryd.func68, Tryd.ntmps68
    go_wp2_with (first
      | (go_at_call 77; refine (P.out _).mono ?_; rintro e w1 ⟨rfl, rfl⟩)
      | (go_at_call 79; refine (S.out _).mono ?_; rintro e w1 ⟨rfl, rfl⟩))
    go_ret
    exact ⟨ret_boolU (H.out.trans (Bool.false_or _)).symm, rfl⟩
  · rw [h] at P e0
    have H := Lib.hid e0; clear e0 h
    go_enter Tryd.func68, Tryd.ntmps68
    go_wp2_with (first
      | (go_at_call 77; refine (P.out _).mono ?_; rintro e w1 ⟨rfl, rfl⟩)
      | (go_at_call 79; refine (S.out _).mono ?_; rintro e w1 ⟨rfl, rfl⟩))
    go_ret
    exact ⟨ret_boolU (H.out.trans (Bool.true_or _)).symm, rfl⟩
theorem ext_getD (a b : List Int) (h : a.length = b.length) (h2 : ∀ j, j < a.length → a.getD j 0 = b.getD j 0) : a = b := by
  apply List.ext_getElem h
  intro j h1 h3
  have := h2 j h1
  simpa [List.getD, List.getElem?_eq_getElem h1, List.getElem?_eq_getElem h3] using this
theorem cell_new (w : World) (v : Value) (e : TypeId) : (w.alloc (Obj.cells #[v] e)).cell? ({ block := w.heap.size, off := 0 } : Addr) = some v := by
  have h : (w.alloc (Obj.cells #[v] e)).heap[w.heap.size]? = some (Obj.cells #[v] e) := Array.getElem?_push_size
  simp only [World.cell?, h]; rfl
end Go.Proofs.YtgnhnalaakgamaaDoor
