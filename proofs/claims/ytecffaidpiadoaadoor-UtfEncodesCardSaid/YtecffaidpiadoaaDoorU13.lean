import Derived.Test.YtecffaidpiadoaaDoorU12
namespace Go.Proofs.YtecffaidpiadoaaDoor
open Go.RowKit
theorem txt_append (a b : List Int) : txt (a ++ b) = txt a ++ txt b := by
  apply ByteArray.ext
  simp [txt]
theorem oneI_wrong {v : Int} (h : rightB v = false) : oneI v = [] := by
  unfold rightB at h
  rw [Bool.or_eq_false_iff] at h
  exact oneI_no h.1 h.2
set_option maxRecDepth 100000 in
set_option maxHeartbeats 2000000 in
theorem encode_ref (l : List Int) (a : Option Addr) (c : Nat) (w : World) (hl : l.length ≤ 1000000) (hr : Row w a l) :
    Calls Tryd.prog 19 #[.slice a l.length c] w fun e w' => e = .returned (.string (encS l)) ∧ Below w.heap.size w w' := by
  have Hr := Lib.hid hr; clear hr
  go_enter Tryd.func19, Tryd.ntmps19
  go_wp2
  go_loopw [3, 4] (fun sv iv wr => ∃ (k : Nat) (t : ByteArray), sv = .string t ∧ iv = .int .i64 (k : Int) ∧ k ≤ l.length ∧ Hid (t = txt (encI (l.take k))) ∧ Below w.heap.size w wr) (fun _ iv _ => l.length - (intOf iv).toNat)
  case atStart => exact ⟨0, ⟨#[]⟩, rfl, rfl, Nat.zero_le _, Lib.hid rfl, Below.refl _ _⟩
  case round =>
    obtain ⟨k, t, rfl, rfl, hk, ht, hbl⟩ := hrel
    by_cases hlt : k < l.length
    · obtain ⟨ba, oa, rfl, hca, hba⟩ := (Hr.out.below hbl) k hlt
      have hlti : (k : Int) < (l.length : Int) := by omega
      have hnext := enc_take l k hlt
      have R := fun w => right_ref (l.getD k 0) w
      have B := fun w => bytes_ref (l.getD k 0) w
      have hno := fun h => oneI_wrong (v := l.getD k 0) h
      have htl := enc_take_len l k hl
      have hol := oneI_len (l.getD k 0)
      have hsz : t.size ≤ 4000000 := by rw [ht.out, txt_size]; exact htl
      have hsz2 : (txt (oneI (l.getD k 0))).size ≤ 4 := by rw [txt_size]; exact hol
      generalize l.getD k 0 = x at *
      cases hx : rightB x
      · rw [hx] at R
        have Hn : Hid (t = txt (encI (l.take (k + 1)))) := Lib.hid (by rw [hnext, hno hx, List.append_nil]; exact ht.out)
        replace R := Lib.hid R
        clear hx hno hnext B ht hsz2
        go_wp2_with (first
            | (go_at_call 18; refine (R.out _).mono ?_; rintro e w1 ⟨rfl, rfl⟩))
        go_roundw
        case rel => exact ⟨k + 1, t, rfl, by go_num, by omega, Hn, hbl⟩
        case measure => simp [intOf]; omega
      · rw [hx] at R
        have Hn : Hid (t ++ txt (oneI x) = txt (encI (l.take (k + 1)))) := Lib.hid (by rw [hnext, txt_append, ← ht.out])
        have B' := fun w => B w hx
        generalize txt (oneI x) = u at *
        replace R := Lib.hid R; replace B' := Lib.hid B'
        clear hx hno hnext B ht
        go_wp2_with (first
            | (go_at_call 18; refine (R.out _).mono ?_; rintro e w1 ⟨rfl, rfl⟩)
            | (go_at_call 44; refine (B'.out _).mono ?_; rintro e w2 ⟨rfl, hb2⟩))
        go_roundw
        case rel => exact ⟨k + 1, _, rfl, by go_num, by omega, Hn, hbl.trans (hb2.mono hbl.size)⟩
        case measure => simp [intOf]; omega
    · obtain rfl : k = l.length := by omega
      have Hf : Hid (t = encS l) := Lib.hid (by rw [ht.out, List.take_length]; rfl)
      clear ht
      go_wp2
      go_ret
      rw [Hf.out]
      exact ⟨rfl, hbl⟩
end Go.Proofs.YtecffaidpiadoaaDoor
