/-
  emacs: what must come at any rate; the law EmacsNames.
-/
import Derived.Test.YtdifkjmpdmlobaaDoorEm6
set_option linter.unusedVariables false
set_option linter.unusedSimpArgs false
namespace Go.Proofs.YtdifkjmpdmlobaaDoor
set_option maxRecDepth 100000
open Go.RowKit
def s_ke : ByteArray := ⟨#[107, 105, 108, 108, 45, 101, 110, 100]⟩
set_option maxRecDepth 100000 in
theorem en_inj : ∀ j k, j < 42 → k < 42 → enS.getD j ⟨#[]⟩ = enS.getD k ⟨#[]⟩ → j = k := by
  have h : ∀ j k : Fin 42, enS.getD j.val ⟨#[]⟩ = enS.getD k.val ⟨#[]⟩ → j = k := by decide +kernel
  intro j k hj hk e
  have := h ⟨j, hj⟩ ⟨k, hk⟩ e
  simpa using this
theorem eparse_yes (k : Nat) (hk : k < 42) (s : ByteArray) (hs : enS.getD k ⟨#[]⟩ = s) (w : World) (hN : EN w) : Calls Tryd.prog 28 #[.string s] w fun e w' => e = .returned (.tuple #[.int .i64 (k : Int), .int .i64 0]) ∧ Below w.heap.size w w' := by
  refine (eparse_any s w hN).mono ?_
  rintro e w' ⟨⟨j, hj, hjs, rfl⟩ | ⟨hno, _⟩, hb⟩
  · have e := en_inj j k hj hk (hjs.trans hs.symm)
    subst e
    exact ⟨rfl, hb⟩
  · exact absurd hs (hno k hk)
set_option maxRecDepth 100000 in
theorem er_ck : (∀ x ∈ erT 3, x.1.1 = (⟨#[67, 45, 107]⟩ : ByteArray) → x.1.2 = 10) ∧ (∃ x ∈ erT 3, x.1.1 = (⟨#[67, 45, 107]⟩ : ByteArray)) := by
  constructor
  · decide +kernel
  · decide +kernel
set_option maxRecDepth 100000 in
theorem er_ret : (∀ x ∈ erT 3, x.1.1 = (⟨#[82, 69, 84]⟩ : ByteArray) → x.1.2 = 33) ∧ (∃ x ∈ erT 3, x.1.1 = (⟨#[82, 69, 84]⟩ : ByteArray)) := by
  constructor
  · decide +kernel
  · decide +kernel
set_option maxRecDepth 100000 in
theorem er_cnt : cntE 10 (erT 3) = 1 := by decide +kernel
theorem k_ck : mkS (nmR (2, 11, ⟨#[]⟩, false)) = ⟨#[67, 45, 107]⟩ ∧ ckE (2, 11, ⟨#[]⟩, false) = 0 := by decide +kernel
theorem k_ret : mkS (nmR (4, 13, ⟨#[]⟩, false)) = ⟨#[82, 69, 84]⟩ ∧ ckE (4, 13, ⟨#[]⟩, false) = 0 := by decide +kernel
theorem eparse_no (s : ByteArray) (hno : ∀ j, j < 42 → enS.getD j ⟨#[]⟩ ≠ s) (w : World) (hN : EN w) : Calls Tryd.prog 28 #[.string s] w fun e w' => e = .returned (.tuple #[.int .i64 0, .int .i64 6]) ∧ Below w.heap.size w w' := by
  refine (eparse_any s w hN).mono ?_
  rintro e w' ⟨⟨j, hj, hjs, _⟩ | ⟨_, rfl⟩, hb⟩
  · exact absurd hjs (hno j hj)
  · exact ⟨rfl, hb⟩
theorem ename_in (k : Nat) (hk : k < 42) (s : ByteArray) (hs : enS.getD k ⟨#[]⟩ = s) (w : World) (hN : EN w) : Calls Tryd.prog 27 #[.int .i64 (k : Int)] w fun e w' => e = .returned (.tuple #[.string s, .int .i64 0]) ∧ w' = w := by
  have h := ename_any k w hN
  have e1 : enN k = s := by unfold enN; rw [if_pos (by omega)]; exact hs
  have e2 : enE k = 0 := if_pos (by omega)
  rw [e1, e2] at h
  exact h
theorem ename_out (n : Int) (hn : n < 0 ∨ 41 < n) (w : World) (hN : EN w) : Calls Tryd.prog 27 #[.int .i64 n] w fun e w' => e = .returned (.tuple #[.string ⟨#[]⟩, .int .i64 3]) ∧ w' = w := by
  have h := ename_any n w hN
  have e1 : enN n = ⟨#[]⟩ := if_neg (by omega)
  have e2 : enE n = 3 := if_neg (by omega)
  rw [e1, e2] at h
  exact h
set_option maxHeartbeats 4000000 in
theorem eawake_any (w : World) (hN : EN w) (hK : KT w) : Calls Tryd.prog 26 #[] w fun e w' => e = .returned (.bool true) ∧ Below w.heap.size w w' := by
  have NA := Lib.hid (ename_in 10 (by decide) s_ke rfl w hN)
  have PA := Lib.hid (eparse_yes 10 (by decide) s_ke rfl w hN)
  have C1 := Lib.hid fun w' (b : Below w.heap.size w w') => ecmd_t (2, 11, ⟨#[]⟩, false) _ 10 w' (hK.below b) (by decide) k_ck.1 k_ck.2 er_ck.1 er_ck.2
  have C2 := Lib.hid fun w' (b : Below w.heap.size w w') => ecmd_t (4, 13, ⟨#[]⟩, false) _ 33 w' (hK.below b) (by decide) k_ret.1 k_ret.2 er_ret.1 er_ret.2
  have KS := Lib.hid fun w' (b : Below w.heap.size w w') => ekeys_t 10 1 w' (hK.below b) er_cnt
  unfold s_ke at NA PA
  clear hN hK
  go_enter Tryd.func26, Tryd.ntmps26
  go_wp2_with (first
    | (go_at_call 27; refine NA.out.mono ?_; rintro e w1 ⟨rfl, rfl⟩; clear NA)
    | (go_at_call 28; refine PA.out.mono ?_; rintro e w2 ⟨rfl, hb⟩; have N2 := Lib.hid hb; clear hb PA)
    | (go_at_call 61; refine (C1.out _ N2.out).mono ?_; rintro e w3 ⟨rfl, hb⟩; have N3 := Lib.hid (seqB N2.out hb); clear hb C1)
    | (go_at_call 62; refine (KS.out _ N3.out).mono ?_; rintro e w4 ⟨a4, c4, rfl, hb⟩; have N4 := Lib.hid (seqB N3.out hb); clear hb KS)
    | (go_at_call 61; refine (C2.out _ N4.out).mono ?_; rintro e w5 ⟨rfl, hb⟩; have N5 := Lib.hid (seqB N4.out hb); clear hb C2))
  go_ret
  exact ⟨rfl, N5.out⟩
section
variable {n : Int} {s : ByteArray} {w : World}
theorem emacsnames_far (hN : EN w) (hK : KT w) (hs : 100 < s.size) :
    Calls Tryd.prog 6 #[.int .i64 n, .string s] w fun e w' => e = .returned (.bool true) ∧ Below w.heap.size w w' := by
  have AW := Lib.hid (eawake_any w hN hK)
  have hsi : (100 : Int) < s.size := by omega
  clear hN hK
  go_enter Tryd.func6, Tryd.ntmps6
  go_wp2_with (go_at_call 26; refine AW.out.mono ?_; rintro e w2 ⟨rfl, hb⟩; have N2 := Lib.hid hb; clear hb AW)
  go_ret
  exact ⟨rfl, N2.out⟩
set_option maxHeartbeats 4000000 in
theorem emacsnames_lo_yes (hN : EN w) (hK : KT w) (hs : ¬ 100 < s.size) (hn : n < 0) {j : Nat} (hj : j < 42) (hjs : enS.getD j ⟨#[]⟩ = s) :
    Calls Tryd.prog 6 #[.int .i64 n, .string s] w fun e w' => e = .returned (.bool true) ∧ Below w.heap.size w w' := by
  have AW := Lib.hid fun w' (b : Below w.heap.size w w') => eawake_any w' (hN.below b) (hK.below b)
  have HN := Lib.hid fun w' (b : Below w.heap.size w w') => hN.below b
  have hsi : ¬ (100 : Int) < s.size := by omega
  have NA := Lib.hid (ename_out n (Or.inl hn) w hN)
  have PA := Lib.hid (eparse_yes j hj s hjs w hN)
  have NB := Lib.hid fun w' (b : Below w.heap.size w w') => ename_in j hj s hjs w' (hN.below b)
  clear hN hK
  go_enter Tryd.func6, Tryd.ntmps6
  go_wp2_with (first
    | (go_at_call 27; refine NA.out.mono ?_; rintro e w1 ⟨rfl, rfl⟩; clear NA)
    | (go_at_call 28; refine PA.out.mono ?_; rintro e w2 ⟨rfl, hb⟩; have N2 := Lib.hid hb; clear hb PA)
    | (go_at_call 27; refine (NB.out _ N2.out).mono ?_; rintro e w3 ⟨rfl, rfl⟩; clear NB)
    | (go_at_call 26; refine (AW.out _ N2.out).mono ?_; rintro e w6 ⟨rfl, hb⟩; have N6 := Lib.hid (seqB N2.out hb); clear hb AW))
  go_ret
  exact ⟨rfl, N6.out⟩
set_option maxHeartbeats 4000000 in
theorem emacsnames_hi_yes (hN : EN w) (hK : KT w) (hs : ¬ 100 < s.size) (hn : 41 < n) (hn0 : ¬ n < 0) {j : Nat} (hj : j < 42) (hjs : enS.getD j ⟨#[]⟩ = s) :
    Calls Tryd.prog 6 #[.int .i64 n, .string s] w fun e w' => e = .returned (.bool true) ∧ Below w.heap.size w w' := by
  have AW := Lib.hid fun w' (b : Below w.heap.size w w') => eawake_any w' (hN.below b) (hK.below b)
  have HN := Lib.hid fun w' (b : Below w.heap.size w w') => hN.below b
  have hsi : ¬ (100 : Int) < s.size := by omega
  have NA := Lib.hid (ename_out n (Or.inr hn) w hN)
  have PA := Lib.hid (eparse_yes j hj s hjs w hN)
  have NB := Lib.hid fun w' (b : Below w.heap.size w w') => ename_in j hj s hjs w' (hN.below b)
  clear hN hK
  go_enter Tryd.func6, Tryd.ntmps6
  go_wp2_with (first
    | (go_at_call 27; refine NA.out.mono ?_; rintro e w1 ⟨rfl, rfl⟩; clear NA)
    | (go_at_call 28; refine PA.out.mono ?_; rintro e w2 ⟨rfl, hb⟩; have N2 := Lib.hid hb; clear hb PA)
    | (go_at_call 27; refine (NB.out _ N2.out).mono ?_; rintro e w3 ⟨rfl, rfl⟩; clear NB)
    | (go_at_call 26; refine (AW.out _ N2.out).mono ?_; rintro e w6 ⟨rfl, hb⟩; have N6 := Lib.hid (seqB N2.out hb); clear hb AW))
  go_ret
  exact ⟨rfl, N6.out⟩
set_option maxHeartbeats 4000000 in
theorem emacsnames_lo_no (hN : EN w) (hK : KT w) (hs : ¬ 100 < s.size) (hn : n < 0) (hno : ∀ j, j < 42 → enS.getD j ⟨#[]⟩ ≠ s) :
    Calls Tryd.prog 6 #[.int .i64 n, .string s] w fun e w' => e = .returned (.bool true) ∧ Below w.heap.size w w' := by
  have AW := Lib.hid fun w' (b : Below w.heap.size w w') => eawake_any w' (hN.below b) (hK.below b)
  have HN := Lib.hid fun w' (b : Below w.heap.size w w') => hN.below b
  have hsi : ¬ (100 : Int) < s.size := by omega
  have NA := Lib.hid (ename_out n (Or.inl hn) w hN)
  have PA := Lib.hid (eparse_no s hno w hN)
  clear hN hK
  go_enter Tryd.func6, Tryd.ntmps6
  go_wp2_with (first
    | (go_at_call 27; refine NA.out.mono ?_; rintro e w1 ⟨rfl, rfl⟩; clear NA)
    | (go_at_call 28; refine PA.out.mono ?_; rintro e w2 ⟨rfl, hb⟩; have N2 := Lib.hid hb; clear hb PA)
    | (go_at_call 26; refine (AW.out _ N2.out).mono ?_; rintro e w6 ⟨rfl, hb⟩; have N6 := Lib.hid (seqB N2.out hb); clear hb AW))
  go_ret
  exact ⟨rfl, N6.out⟩
set_option maxHeartbeats 4000000 in
theorem emacsnames_hi_no (hN : EN w) (hK : KT w) (hs : ¬ 100 < s.size) (hn : 41 < n) (hn0 : ¬ n < 0) (hno : ∀ j, j < 42 → enS.getD j ⟨#[]⟩ ≠ s) :
    Calls Tryd.prog 6 #[.int .i64 n, .string s] w fun e w' => e = .returned (.bool true) ∧ Below w.heap.size w w' := by
  have AW := Lib.hid fun w' (b : Below w.heap.size w w') => eawake_any w' (hN.below b) (hK.below b)
  have HN := Lib.hid fun w' (b : Below w.heap.size w w') => hN.below b
  have hsi : ¬ (100 : Int) < s.size := by omega
  have NA := Lib.hid (ename_out n (Or.inr hn) w hN)
  have PA := Lib.hid (eparse_no s hno w hN)
  clear hN hK
  go_enter Tryd.func6, Tryd.ntmps6
  go_wp2_with (first
    | (go_at_call 27; refine NA.out.mono ?_; rintro e w1 ⟨rfl, rfl⟩; clear NA)
    | (go_at_call 28; refine PA.out.mono ?_; rintro e w2 ⟨rfl, hb⟩; have N2 := Lib.hid hb; clear hb PA)
    | (go_at_call 26; refine (AW.out _ N2.out).mono ?_; rintro e w6 ⟨rfl, hb⟩; have N6 := Lib.hid (seqB N2.out hb); clear hb AW))
  go_ret
  exact ⟨rfl, N6.out⟩
set_option maxHeartbeats 4000000 in
theorem emacsnames_in_yes (hN : EN w) (hK : KT w) (hs : ¬ 100 < s.size) {k : Nat} (hk : k < 42) {j : Nat} (hj : j < 42) (hjs : enS.getD j ⟨#[]⟩ = s) :
    Calls Tryd.prog 6 #[.int .i64 (k : Int), .string s] w fun e w' => e = .returned (.bool true) ∧ Below w.heap.size w w' := by
  have AW := Lib.hid fun w' (b : Below w.heap.size w w') => eawake_any w' (hN.below b) (hK.below b)
  have HN := Lib.hid fun w' (b : Below w.heap.size w w') => hN.below b
  have hsi : ¬ (100 : Int) < s.size := by omega
  obtain ⟨t, ht⟩ : ∃ t, enS.getD k ⟨#[]⟩ = t := ⟨_, rfl⟩
  have NA := Lib.hid (ename_in k hk t ht w hN)
  have PB := Lib.hid fun w' (b : Below w.heap.size w w') => eparse_yes k hk t ht w' (hN.below b)
  have hk0 : ¬ (k : Int) < 0 := by omega
  have hk41 : ¬ (41 : Int) < k := by omega
  have PA := Lib.hid (eparse_yes j hj s hjs w hN)
  have NB := Lib.hid fun w' (b : Below w.heap.size w w') => ename_in j hj s hjs w' (hN.below b)
  clear hN hK
  go_enter Tryd.func6, Tryd.ntmps6
  go_wp2_with (first
    | (go_at_call 27; refine NA.out.mono ?_; rintro e w1 ⟨rfl, rfl⟩; clear NA)
    | (go_at_call 28; refine PA.out.mono ?_; rintro e w2 ⟨rfl, hb⟩; have N2 := Lib.hid hb; clear hb PA)
    | (go_at_call 27; refine (NB.out _ N2.out).mono ?_; rintro e w3 ⟨rfl, rfl⟩; clear NB)
    | (go_at_call 28; refine (PB.out _ N2.out).mono ?_; rintro e w4 ⟨rfl, hb⟩; have N4 := Lib.hid (seqB N2.out hb); clear hb PB)
    | (go_at_call 26; refine (AW.out _ N4.out).mono ?_; rintro e w6 ⟨rfl, hb⟩; have N6 := Lib.hid (seqB N4.out hb); clear hb AW))
  go_ret
  exact ⟨rfl, N6.out⟩
set_option maxHeartbeats 4000000 in
theorem emacsnames_in_no (hN : EN w) (hK : KT w) (hs : ¬ 100 < s.size) {k : Nat} (hk : k < 42) (hno : ∀ j, j < 42 → enS.getD j ⟨#[]⟩ ≠ s) :
    Calls Tryd.prog 6 #[.int .i64 (k : Int), .string s] w fun e w' => e = .returned (.bool true) ∧ Below w.heap.size w w' := by
  have AW := Lib.hid fun w' (b : Below w.heap.size w w') => eawake_any w' (hN.below b) (hK.below b)
  have HN := Lib.hid fun w' (b : Below w.heap.size w w') => hN.below b
  have hsi : ¬ (100 : Int) < s.size := by omega
  obtain ⟨t, ht⟩ : ∃ t, enS.getD k ⟨#[]⟩ = t := ⟨_, rfl⟩
  have NA := Lib.hid (ename_in k hk t ht w hN)
  have PB := Lib.hid fun w' (b : Below w.heap.size w w') => eparse_yes k hk t ht w' (hN.below b)
  have hk0 : ¬ (k : Int) < 0 := by omega
  have hk41 : ¬ (41 : Int) < k := by omega
  have PA := Lib.hid (eparse_no s hno w hN)
  clear hN hK
  go_enter Tryd.func6, Tryd.ntmps6
  go_wp2_with (first
    | (go_at_call 27; refine NA.out.mono ?_; rintro e w1 ⟨rfl, rfl⟩; clear NA)
    | (go_at_call 28; refine PA.out.mono ?_; rintro e w2 ⟨rfl, hb⟩; have N2 := Lib.hid hb; clear hb PA)
    | (go_at_call 28; refine (PB.out _ N2.out).mono ?_; rintro e w4 ⟨rfl, hb⟩; have N4 := Lib.hid (seqB N2.out hb); clear hb PB)
    | (go_at_call 26; refine (AW.out _ N4.out).mono ?_; rintro e w6 ⟨rfl, hb⟩; have N6 := Lib.hid (seqB N4.out hb); clear hb AW))
  go_ret
  exact ⟨rfl, N6.out⟩
/-- Of any number and text. -/
theorem emacsnames_any (n : Int) (s : ByteArray) (w : World) (hN : EN w) (hK : KT w) :
    Calls Tryd.prog 6 #[.int .i64 n, .string s] w fun e w' => e = .returned (.bool true) ∧ Below w.heap.size w w' := by
  by_cases hs : 100 < s.size
  · exact emacsnames_far hN hK hs
  by_cases hy : ∃ j, j < 42 ∧ enS.getD j ⟨#[]⟩ = s
  · obtain ⟨j, hj, hjs⟩ := hy
    by_cases hl : n < 0
    · exact emacsnames_lo_yes hN hK hs hl hj hjs
    by_cases hh : 41 < n
    · exact emacsnames_hi_yes hN hK hs hh hl hj hjs
    · obtain ⟨k, rfl⟩ : ∃ k : Nat, n = (k : Int) := ⟨n.toNat, by omega⟩
      exact emacsnames_in_yes hN hK hs (by omega) hj hjs
  · have hno : ∀ j, j < 42 → enS.getD j ⟨#[]⟩ ≠ s := fun j hj e => hy ⟨j, hj, e⟩
    by_cases hl : n < 0
    · exact emacsnames_lo_no hN hK hs hl hno
    by_cases hh : 41 < n
    · exact emacsnames_hi_no hN hK hs hh hl hno
    · obtain ⟨k, rfl⟩ : ∃ k : Nat, n = (k : Int) := ⟨n.toNat, by omega⟩
      exact emacsnames_in_no hN hK hs (by omega) hno
end
end Go.Proofs.YtdifkjmpdmlobaaDoor
