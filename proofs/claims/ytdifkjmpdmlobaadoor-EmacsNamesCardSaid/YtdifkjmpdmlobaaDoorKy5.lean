/-
  Keys: what signs, control bytes and pastes are named.
-/
import Derived.Test.YtdifkjmpdmlobaaDoorKy4
import Derived.Test.YtdifkjmpdmlobaaDoorE3
import Derived.Test.YtdifkjmpdmlobaaDoorM6
import Derived.Test.YtdifkjmpdmlobaaDoorShelf
import Derived.Lib.UnsafeStr
set_option linter.unusedVariables false
set_option linter.unusedSimpArgs false
namespace Go.Proofs.YtdifkjmpdmlobaaDoor
set_option maxRecDepth 100000
open Go.RowKit
abbrev mkS (l : List UInt8) : ByteArray := ⟨l.toArray⟩
theorem mkS_app (a b : List UInt8) : mkS a ++ mkS b = mkS (a ++ b) := ba_app a b
theorem mkS_size (l : List UInt8) : (mkS l).size = l.length := by simp [mkS, ByteArray.size]
theorem mkS_of (s : ByteArray) : mkS s.data.toList = s := by cases s; simp [mkS]
theorem mkS_inj {a b : List UInt8} (h : mkS a = mkS b) : a = b := by
  have := congrArg (fun s : ByteArray => s.data.toList) h
  simpa [mkS] using this
theorem krow_one (w : World) (v : Int) : Row (w.alloc (.cells #[.int .i64 v] 3)) (some ⟨w.heap.size, 0, none⟩) [v] := fun j hj => by
  obtain rfl : j = 0 := by simp at hj; omega
  exact ⟨w.heap.size, 0, rfl, by rw [World.cell?_alloc_new]; rfl, by simp⟩
theorem kenc_one (x : Int) (w : World) : Calls Tryd.prog 70 #[.slice (some ⟨w.heap.size, 0, none⟩) 1 1] (w.alloc (.cells #[.int .i64 x] 3)) fun e w' => e = .returned (.string (txt (oneI x))) ∧ Below w.heap.size w w' := by
  have h := encode_any [x] (some ⟨w.heap.size, 0, none⟩) 1 (w.alloc (.cells #[.int .i64 x] 3)) (by simp) (krow_one w x)
  rw [show encS [x] = txt (oneI x) by simp [encS, encI]] at h
  exact h.mono fun e w' ⟨h1, h2⟩ => ⟨h1, seqB (below_alloc _ _) h2⟩
theorem one_byte {v : Int} (h0 : 0 ≤ v) (h1 : v < 128) : txt (oneI v) = mkS [v.toNat.toUInt8] := by
  rw [oneI_pt ((ptB_iff _).2 (by omega)), Lib.encodeRuneZ_one (by omega) (by omega)]; rfl
theorem kstr_ret {a b : ByteArray} (h : a = b) : Ending.returned (.string a) = .returned (.string b) := by rw [h]
theorem ksum (a b : ByteArray) (h : a.size + b.size ≤ 8388608) (w : World) : (Op.stringOp .add a b).run Tryd.prog w = .ok (.string (a ++ b)) w := run_string_add_sum w a b (by omega)
theorem khex1 (v : Int) (w : World) (h0 : 0 ≤ v) (h1 : v ≤ 9223372036854775807) : Calls Tryd.prog 133 #[.int .i64 v, .int .i64 1] w fun e w' => e = .returned (.string (mkS (hexN v 1))) ∧ Below w.heap.size w w' := by
  have X := hex_any v 1 w (by omega) h1
  rw [show hexS v 1 = hexN v 1 by rw [hexS_pos v 1 h0]; rfl] at X
  exact X
theorem khex2 (v : Int) (w : World) (h0 : 0 ≤ v) (h1 : v ≤ 9223372036854775807) : Calls Tryd.prog 133 #[.int .i64 v, .int .i64 2] w fun e w' => e = .returned (.string (mkS (hexN v 2))) ∧ Below w.heap.size w w' := by
  have X := hex_any v 2 w (by omega) h1
  rw [show hexS v 2 = hexN v 2 by rw [hexS_pos v 2 h0]; rfl] at X
  exact X
set_option maxHeartbeats 2000000 in
set_option maxRecDepth 100000 in
theorem ksign_any (v : Int) (w : World) (h0 : 0 ≤ v) (hm : v ≤ 1114367) : Calls Tryd.prog 121 #[.int .i64 v] w fun e w' => e = .returned (.string (mkS (sgN v))) ∧ Below w.heap.size w w' := by
  by_cases h : 32 < v ∧ v < 127 ∧ v ≠ 60
  · obtain ⟨h1, h2, h3⟩ := h
    have e : Hid (mkS (sgN v) = txt (oneI v)) := Lib.hid (by rw [one_byte (by omega) (by omega)]; unfold sgN; rw [if_pos ⟨h1, h2, h3⟩])
    have E := Lib.hid (kenc_one v w)
    go_enter Tryd.func121, Tryd.ntmps121
    go_wp2_with (go_at_call 70; refine E.out.mono ?_; rintro e w2 ⟨rfl, hb2⟩)
    go_ret
    rw [e.out]; exact ⟨rfl, hb2⟩
  · have e : sgN v = 60 :: (hexN v 1 ++ [62]) := by unfold sgN; rw [if_neg h]
    have X := fun w => khex1 v w h0 (by omega)
    rw [e]
    have hl := hexN_len v 1
    generalize hexN v 1 = hs at *
    have hsz := mkS_size hs
    have R1 := ksum ⟨#[60]⟩ (mkS hs) (by rw [hsz]; show 1 + _ ≤ _; omega)
    have R2 := ksum (⟨#[60]⟩ ++ mkS hs) ⟨#[62]⟩ (by rw [ByteArray.size_append, hsz]; show 1 + hs.length + 1 ≤ _; omega)
    have hf : Hid (⟨#[60]⟩ ++ mkS hs ++ ⟨#[62]⟩ = mkS (60 :: (hs ++ [62]))) := Lib.hid (by rw [show (⟨#[60]⟩ : ByteArray) = mkS [60] from rfl, show (⟨#[62]⟩ : ByteArray) = mkS [62] from rfl, mkS_app, mkS_app]; simp)
    replace X := Lib.hid X
    clear e hl hsz
    generalize mkS hs = u at *
    by_cases h1 : 32 < v
    · by_cases h2 : v < 127
      · have h3 : v = 60 := Decidable.byContradiction fun h3 => h ⟨h1, h2, h3⟩
        subst h3
        go_enter Tryd.func121, Tryd.ntmps121
        go_wp2_with (go_at_call 133; refine (X.out _).mono ?_; rintro e w2 ⟨rfl, hb2⟩)
        go_ret
        rw [← hf.out]; exact ⟨rfl, hb2⟩
      · clear h
        go_enter Tryd.func121, Tryd.ntmps121
        go_wp2_with (go_at_call 133; refine (X.out _).mono ?_; rintro e w2 ⟨rfl, hb2⟩)
        go_ret
        rw [← hf.out]; exact ⟨rfl, hb2⟩
    · clear h
      go_enter Tryd.func121, Tryd.ntmps121
      go_wp2_with (go_at_call 133; refine (X.out _).mono ?_; rintro e w2 ⟨rfl, hb2⟩)
      go_ret
      rw [← hf.out]; exact ⟨rfl, hb2⟩
set_option maxHeartbeats 2000000 in
set_option maxRecDepth 100000 in
theorem kctrl_any (v : Int) (w : World) (h0 : 0 ≤ v) (hm : v < 32) : Calls Tryd.prog 122 #[.int .i64 v] w fun e w' => e = .returned (.string (mkS (ctN v))) ∧ Below w.heap.size w w' := by
  by_cases h : 1 ≤ v ∧ v ≤ 26
  · obtain ⟨h1, h2⟩ := h
    have E := kenc_one (v + 96) w
    rw [one_byte (by omega) (by omega)] at E
    have hs := mkS_size [(v + 96).toNat.toUInt8]
    have hf : Hid (⟨#[67, 45]⟩ ++ mkS [(v + 96).toNat.toUInt8] = mkS (ctN v)) := Lib.hid (by rw [show (⟨#[67, 45]⟩ : ByteArray) = mkS [67, 45] from rfl, mkS_app]; unfold ctN; rw [if_pos ⟨h1, h2⟩]; rfl)
    generalize mkS [(v + 96).toNat.toUInt8] = u at *
    replace E := Lib.hid E
    have R1 := ksum ⟨#[67, 45]⟩ u (by rw [hs]; show 2 + 1 ≤ 8388608; omega)
    clear hs
    go_enter Tryd.func122, Tryd.ntmps122
    go_wp2_with (go_at_call 70; refine E.out.mono ?_; rintro e w2 ⟨rfl, hb2⟩)
    go_ret
    rw [← hf.out]; exact ⟨rfl, hb2⟩
  · have E := kenc_one (v + 64) w
    rw [one_byte (by omega) (by omega)] at E
    have hs := mkS_size [(v + 64).toNat.toUInt8]
    have hf : Hid (⟨#[67, 45]⟩ ++ mkS [(v + 64).toNat.toUInt8] = mkS (ctN v)) := Lib.hid (by rw [show (⟨#[67, 45]⟩ : ByteArray) = mkS [67, 45] from rfl, mkS_app]; unfold ctN; rw [if_neg h]; rfl)
    generalize mkS [(v + 64).toNat.toUInt8] = u at *
    replace E := Lib.hid E
    have R1 := ksum ⟨#[67, 45]⟩ u (by rw [hs]; show 2 + 1 ≤ 8388608; omega)
    clear hs
    by_cases h1 : 1 ≤ v
    · have h2 : ¬ v ≤ 26 := fun h2 => h ⟨h1, h2⟩
      clear h
      go_enter Tryd.func122, Tryd.ntmps122
      go_wp2_with (go_at_call 70; refine E.out.mono ?_; rintro e w2 ⟨rfl, hb2⟩)
      go_ret
      rw [← hf.out]; exact ⟨rfl, hb2⟩
    · clear h
      go_enter Tryd.func122, Tryd.ntmps122
      go_wp2_with (go_at_call 70; refine E.out.mono ?_; rintro e w2 ⟨rfl, hb2⟩)
      go_ret
      rw [← hf.out]; exact ⟨rfl, hb2⟩
end Go.Proofs.YtdifkjmpdmlobaaDoor
