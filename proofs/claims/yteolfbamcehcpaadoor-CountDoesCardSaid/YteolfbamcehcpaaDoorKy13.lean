/-
  Keys, the reference: names and bytes.
-/
import Derived.Test.YteolfbamcehcpaaDoorKy12
import Derived.Test.YteolfbamcehcpaaDoorW7
set_option linter.unusedVariables false
set_option linter.unusedSimpArgs false
namespace Go.Proofs.YteolfbamcehcpaaDoor
set_option maxRecDepth 100000
open Go.RowKit
theorem rhex1 (v : Int) (w : World) (h0 : 0 ≤ v) (h1 : v ≤ 9223372036854775807) : Calls Tryd.prog 56 #[.int .i64 v, .int .i64 1] w fun e w' => e = .returned (.string (mkS (hexN v 1))) ∧ w = w' :=
  hex_ref 16 v 1 w h0 h1 (by omega) (by omega) (by omega) (by omega)
theorem rhex2 (v : Int) (w : World) (h0 : 0 ≤ v) (h1 : v ≤ 9223372036854775807) : Calls Tryd.prog 56 #[.int .i64 v, .int .i64 2] w fun e w' => e = .returned (.string (mkS (hexN v 2))) ∧ w = w' :=
  hex_ref 16 v 2 w h0 h1 (by omega) (by omega) (by omega) (by omega)
theorem conv1 (v : Int) (w : World) (o : Obj) : ∀ dst, Tryd.prog.underlying dst = some .string → (convert 71 dst (.slice (some ⟨w.heap.size + 1, 0, none⟩) 1 1)).run Tryd.prog ((w.alloc o).alloc (Obj.cells #[.int .u8 v] 5)) = .ok (.string (txt [v])) ((w.alloc o).alloc (Obj.cells #[.int .u8 v] 5)) := by
  have h := conv_new (w.alloc o) [v] 1 rfl
  rwa [show (w.alloc o).heap.size = w.heap.size + 1 by simp] at h
theorem conv2 (u v : Int) (w : World) (o : Obj) : ∀ dst, Tryd.prog.underlying dst = some .string → (convert 71 dst (.slice (some ⟨w.heap.size + 1, 0, none⟩) 2 2)).run Tryd.prog ((w.alloc o).alloc (Obj.cells #[.int .u8 u, .int .u8 v] 5)) = .ok (.string (txt [u, v])) ((w.alloc o).alloc (Obj.cells #[.int .u8 u, .int .u8 v] 5)) := by
  have h := conv_new (w.alloc o) [u, v] 2 rfl
  rwa [show (w.alloc o).heap.size = w.heap.size + 1 by simp] at h
/-- What a value is named by the reference. -/
def svN (v : Int) : List UInt8 := if 32 ≤ v then sgN v else ctN v
set_option maxHeartbeats 2000000 in
set_option maxRecDepth 100000 in
theorem rsign_ref (v : Int) (w : World) (h0 : 0 ≤ v) (hm : v ≤ 1114367) : Calls Tryd.prog 55 #[.int .i64 v] w fun e w' => e = .returned (.string (mkS (svN v))) ∧ Below w.heap.size w w' := by
  by_cases h32 : 32 ≤ v
  · have e0 : svN v = sgN v := by unfold svN; rw [if_pos h32]
    rw [e0]; clear e0
    by_cases h : 32 < v ∧ v < 127 ∧ v ≠ 60
    · obtain ⟨h1, h2, h3⟩ := h
      have e : Hid (mkS (sgN v) = txt [v]) := Lib.hid (by unfold sgN; rw [if_pos ⟨h1, h2, h3⟩]; rfl)
      have g1 : 33 ≤ v := by omega
      have g2 : v ≤ 126 := by omega
      have hcv : ∀ dst, Tryd.prog.underlying dst = some .string → (convert 71 dst (.slice (some ⟨w.heap.size, 0, none⟩) 1 1)).run Tryd.prog (w.alloc (Obj.cells #[.int .u8 (v)] 5)) = .ok (.string (txt [v])) (w.alloc (Obj.cells #[.int .u8 (v)] 5)) := conv_new w [v] 1 rfl
      go_enter Tryd.func55, Tryd.ntmps55
      go_wp2_with fail
      go_ret
      rw [e.out]; exact ⟨rfl, below_alloc _ _⟩
    · have e : sgN v = 60 :: (hexN v 1 ++ [62]) := by unfold sgN; rw [if_neg h]
      have X := fun w => rhex1 v w h0 (by omega)
      rw [e]
      have hl := hexN_len v 1
      generalize hexN v 1 = hs at *
      have hsz := mkS_size hs
      have R1 := ksum ⟨#[60]⟩ (mkS hs) (by rw [hsz]; show 1 + _ ≤ _; omega)
      have R2 := ksum (⟨#[60]⟩ ++ mkS hs) ⟨#[62]⟩ (by rw [ByteArray.size_append, hsz]; show 1 + hs.length + 1 ≤ _; omega)
      have hf : Hid (⟨#[60]⟩ ++ mkS hs ++ ⟨#[62]⟩ = mkS (60 :: (hs ++ [62]))) := Lib.hid (by rw [show (⟨#[60]⟩ : ByteArray) = mkS [60] from rfl, show (⟨#[62]⟩ : ByteArray) = mkS [62] from rfl, mkS_app, mkS_app]; simp)
      replace X := Lib.hid X
      clear e hl hsz
      generalize mkS hs = u at *
      by_cases h1 : 33 ≤ v
      · by_cases h2 : v ≤ 126
        · have h3 : v = 60 := Decidable.byContradiction fun h3 => h ⟨by omega, by omega, h3⟩
          subst h3
          go_enter Tryd.func55, Tryd.ntmps55
          go_wp2_with (go_at_call 56; refine (X.out _).mono ?_; rintro e w2 ⟨rfl, rfl⟩)
          go_ret
          rw [← hf.out]; exact ⟨rfl, Below.refl _ _⟩
        · clear h
          go_enter Tryd.func55, Tryd.ntmps55
          go_wp2_with (go_at_call 56; refine (X.out _).mono ?_; rintro e w2 ⟨rfl, rfl⟩)
          go_ret
          rw [← hf.out]; exact ⟨rfl, Below.refl _ _⟩
      · clear h
        go_enter Tryd.func55, Tryd.ntmps55
        go_wp2_with (go_at_call 56; refine (X.out _).mono ?_; rintro e w2 ⟨rfl, rfl⟩)
        go_ret
        rw [← hf.out]; exact ⟨rfl, Below.refl _ _⟩
  · have e0 : svN v = ctN v := by unfold svN; rw [if_neg h32]
    rw [e0]; clear e0
    have h33 : ¬ 33 ≤ v := by omega
    by_cases h : 1 ≤ v ∧ v ≤ 26
    · obtain ⟨h1, h2⟩ := h
      have hcv : ∀ dst, Tryd.prog.underlying dst = some .string → (convert 71 dst (.slice (some ⟨w.heap.size, 0, none⟩) 1 1)).run Tryd.prog (w.alloc (Obj.cells #[.int .u8 (v + 96)] 5)) = .ok (.string (txt [v + 96])) (w.alloc (Obj.cells #[.int .u8 (v + 96)] 5)) := conv_new w [v + 96] 1 rfl
      have hf : Hid (⟨#[67, 45]⟩ ++ txt [v + 96] = mkS (ctN v)) := Lib.hid (by rw [show (⟨#[67, 45]⟩ : ByteArray) = mkS [67, 45] from rfl, show txt [v + 96] = mkS [(v + 96).toNat.toUInt8] from rfl, mkS_app]; unfold ctN; rw [if_pos ⟨h1, h2⟩]; rfl)
      have R1 := ksum ⟨#[67, 45]⟩ (txt [v + 96]) (by rw [txt_size]; show 2 + 1 ≤ 8388608; omega)
      generalize txt [v + 96] = u at *
      go_enter Tryd.func55, Tryd.ntmps55
      go_wp2_with fail
      go_ret
      rw [← hf.out]; exact ⟨rfl, below_alloc _ _⟩
    · have hcv : ∀ dst, Tryd.prog.underlying dst = some .string → (convert 71 dst (.slice (some ⟨w.heap.size, 0, none⟩) 1 1)).run Tryd.prog (w.alloc (Obj.cells #[.int .u8 (v + 64)] 5)) = .ok (.string (txt [v + 64])) (w.alloc (Obj.cells #[.int .u8 (v + 64)] 5)) := conv_new w [v + 64] 1 rfl
      have hf : Hid (⟨#[67, 45]⟩ ++ txt [v + 64] = mkS (ctN v)) := Lib.hid (by rw [show (⟨#[67, 45]⟩ : ByteArray) = mkS [67, 45] from rfl, show txt [v + 64] = mkS [(v + 64).toNat.toUInt8] from rfl, mkS_app]; unfold ctN; rw [if_neg h]; rfl)
      have R1 := ksum ⟨#[67, 45]⟩ (txt [v + 64]) (by rw [txt_size]; show 2 + 1 ≤ 8388608; omega)
      generalize txt [v + 64] = u at *
      by_cases h1 : 1 ≤ v
      · have h2 : ¬ v ≤ 26 := fun h2 => h ⟨h1, h2⟩
        clear h
        go_enter Tryd.func55, Tryd.ntmps55
        go_wp2_with fail
        go_ret
        rw [← hf.out]; exact ⟨rfl, below_alloc _ _⟩
      · clear h
        go_enter Tryd.func55, Tryd.ntmps55
        go_wp2_with fail
        go_ret
        rw [← hf.out]; exact ⟨rfl, below_alloc _ _⟩
theorem kTab_row : ∀ r ∈ kTab, kRowOf r.1 r.2.1 = r := by decide
set_option maxHeartbeats 8000000 in
set_option maxRecDepth 100000 in
theorem rname_row (r : KRow) (hr : r ∈ kTab) (w : World) : Calls Tryd.prog 18 #[.agg #[.int .i64 r.1, .int .i64 r.2.1, .string ⟨#[]⟩, .bool false]] w fun e w' => e = .returned (.string (mkS r.2.2.1)) ∧ Below w.heap.size w w' := by
  simp only [kTab, List.mem_cons, List.not_mem_nil, or_false] at hr
  rcases hr with rfl | rfl | rfl | rfl | rfl | rfl | rfl | rfl | rfl | rfl | rfl | rfl | rfl
  all_goals
    dsimp only
    go_enter Tryd.func18, Tryd.ntmps18
    go_wp2_with fail
    go_ret
    first | exact ⟨rfl, below_alloc _ _⟩ | exact ⟨rfl, seqB (below_alloc _ _) (below_alloc _ _)⟩
set_option maxHeartbeats 8000000 in
set_option maxRecDepth 100000 in
theorem rbytes_row (r : KRow) (hr : r ∈ kTab) (w : World) : Calls Tryd.prog 19 #[.agg #[.int .i64 r.1, .int .i64 r.2.1, .string ⟨#[]⟩, .bool false]] w fun e w' => e = .returned (.string (mkS r.2.2.2)) ∧ Below w.heap.size w w' := by
  have hcv := fun v => conv1 v w
  simp only [kTab, List.mem_cons, List.not_mem_nil, or_false] at hr
  rcases hr with rfl | rfl | rfl | rfl | rfl | rfl | rfl | rfl | rfl | rfl | rfl | rfl | rfl
  all_goals
    dsimp only
    go_enter Tryd.func19, Tryd.ntmps19
    go_wp2_with fail
    go_ret
    first | exact ⟨rfl, below_alloc _ _⟩ | exact ⟨rfl, seqB (below_alloc _ _) (below_alloc _ _)⟩
set_option maxHeartbeats 4000000 in
set_option maxRecDepth 100000 in
theorem rname_paste (t : ByteArray) (c : Bool) (w : World) (ht : t.size ≤ 65536) : Calls Tryd.prog 18 #[.agg #[.int .i64 15, .int .i64 0, .string t, .bool c]] w fun e w' => e = .returned (.string (mkS (psN t.data.toList c))) ∧ Below w.heap.size w w' := by
  have B0 := Lib.hid (below_alloc w (.cells #[.int .i64 15, .int .i64 0, .string t, .bool c] 23))
  have Q0 := Lib.hid (heap_alloc_new w (.cells #[.int .i64 15, .int .i64 0, .string t, .bool c] 23))
  have HE : (⟨#[80, 45]⟩ : ByteArray) = mkS (80 :: 45 :: hx2 (t.data.toList.take 0)) := by rw [List.take_zero]; rfl
  replace HE := Lib.hid HE
  go_enter Tryd.func18, Tryd.ntmps18
  go_wp2_with fail
  go_loopw [4, 5] (fun sv iv wr => ∃ k : Nat, k ≤ t.size ∧ iv = .int .i64 (k : Int) ∧ sv = .string (mkS (80 :: 45 :: hx2 (t.data.toList.take k))) ∧ w.alloc (.cells #[.int .i64 15, .int .i64 0, .string t, .bool c] 23) = wr) (fun _ iv _ => t.size - (intOf iv).toNat)
  case atStart => exact ⟨0, Nat.zero_le _, rfl, by rw [← HE.out], rfl⟩
  case round =>
    obtain ⟨k, hk, rfl, rfl, rfl⟩ := hrel
    have hlen : (mkS (80 :: 45 :: hx2 (t.data.toList.take k))).size ≤ 2 + 2 * k := by
      rw [mkS_size]; simp only [List.length_cons, hx2_len]; have := List.length_take_le k t.data.toList; omega
    by_cases hlt : k < t.size
    · have hk1 : (k : Int) < t.size := by omega
      have hk0 : (0 : Int) ≤ k := by omega
      have H : ∀ w, Calls Tryd.prog 56 #[.int .i64 (wrap64 ((t[k]).toNat : Int)), .int .i64 2] w fun e w' => e = .returned (.string (mkS (hexN ((t[k]).toNat : Int) 2))) ∧ w = w' := fun w => by
        rw [show wrap64 ((t[k]).toNat : Int) = (t[k]).toNat by have := u8_lt t[k]; unfold wrap64; omega]
        exact rhex2 ((t[k]).toNat : Int) w (by omega) (by have := u8_lt t[k]; omega)
      have hst : hx2 (t.data.toList.take (k + 1)) = hx2 (t.data.toList.take k) ++ hexN ((t[k]).toNat : Int) 2 := by rw [take_snoc t k hlt, hx2_snoc]
      have hl2 := (hex2 t[k]).1
      generalize hexN ((t[k]).toNat : Int) 2 = hs at *
      have hcell : Hid (mkS (80 :: 45 :: hx2 (t.data.toList.take k)) ++ mkS hs = mkS (80 :: 45 :: hx2 (t.data.toList.take (k + 1)))) := Lib.hid (by rw [hst, mkS_app]; rfl)
      have hus : (mkS hs).size ≤ 2 := by rw [mkS_size]; omega
      have R1 := ksum (mkS (80 :: 45 :: hx2 (t.data.toList.take k))) (mkS hs) (by omega)
      generalize mkS hs = u at *
      generalize mkS (80 :: 45 :: hx2 (t.data.toList.take k)) = bs at *
      replace H := Lib.hid H
      clear hst hl2 hus hlen
      go_wp2_with (go_at_call 56; refine (H.out _).mono ?_; rintro e w3 ⟨rfl, rfl⟩)
      go_roundw
      case rel => exact ⟨k + 1, by omega, by go_num, by rw [hcell.out], by first | rfl | trivial⟩
      case measure => (simp [intOf]; try omega)
    · obtain rfl : k = t.size := by omega
      have htk : t.data.toList.take t.size = t.data.toList := take_all t _ (Nat.le_refl _)
      rw [htk] at hlen ⊢
      cases c with
      | true =>
        have hcell : Hid (mkS (80 :: 45 :: hx2 t.data.toList) ++ ⟨#[33]⟩ = mkS (psN t.data.toList true)) := Lib.hid (by rw [show (⟨#[33]⟩ : ByteArray) = mkS [33] from rfl, mkS_app]; rfl)
        have R1 := ksum (mkS (80 :: 45 :: hx2 t.data.toList)) ⟨#[33]⟩ (by show _ + 1 ≤ _; omega)
        generalize mkS (80 :: 45 :: hx2 t.data.toList) = bs at *
        clear hlen htk
        go_wp2_with fail
        go_ret
        rw [← hcell.out]; exact ⟨rfl, B0.out⟩
      | false =>
        have e : 80 :: 45 :: hx2 t.data.toList = psN t.data.toList false := by show _ = 80 :: 45 :: (hx2 t.data.toList ++ []); rw [List.append_nil]
        rw [e]
        clear hlen htk e
        go_wp2_with fail
        go_ret
        exact ⟨rfl, B0.out⟩
set_option maxHeartbeats 4000000 in
set_option maxRecDepth 100000 in
theorem rname_ref (k : Ky) (w : World) (h : keyB k = true) : Calls Tryd.prog 18 #[kyV k] w fun e w' => e = .returned (.string (mkS (nmN k))) ∧ Below w.heap.size w w' := by
  have key : ∀ kind v, kind ≤ 2 → 0 ≤ v → v ≤ 1114367 → Calls Tryd.prog 18 #[.agg #[.int .i64 kind, .int .i64 v, .string ⟨#[]⟩, .bool false]] w fun e w' => e = .returned (.string (mkS (svN v))) ∧ Below w.heap.size w w' := fun kind v hk h0 h1 => by
    have B0 := below_alloc w (.cells #[.int .i64 kind, .int .i64 v, .string ⟨#[]⟩, .bool false] 23)
    have S := Lib.hid fun w => rsign_ref v w h0 h1
    go_enter Tryd.func18, Tryd.ntmps18
    go_wp2_with (go_at_call 55; refine (S.out _).mono ?_; rintro e w2 ⟨rfl, hb2⟩)
    go_ret
    exact ⟨rfl, seqB B0 hb2⟩
  have key3 : ∀ v, 0 ≤ v → v ≤ 1114367 → Calls Tryd.prog 18 #[.agg #[.int .i64 3, .int .i64 v, .string ⟨#[]⟩, .bool false]] w fun e w' => e = .returned (.string (mkS (77 :: 45 :: svN v))) ∧ Below w.heap.size w w' := fun v h0 h1 => by
    have B0 := below_alloc w (.cells #[.int .i64 3, .int .i64 v, .string ⟨#[]⟩, .bool false] 23)
    have S := fun w => rsign_ref v w h0 h1
    have hl : (svN v).length ≤ 22 := by unfold svN; split; exact sgN_len v; rw [ctN_len]; omega
    have hsz : (mkS (svN v)).size ≤ 22 := by rw [mkS_size]; exact hl
    have he : Hid (⟨#[77, 45]⟩ ++ mkS (svN v) = mkS (77 :: 45 :: svN v)) := Lib.hid (by rw [show (⟨#[77, 45]⟩ : ByteArray) = mkS [77, 45] from rfl, mkS_app]; rfl)
    generalize mkS (svN v) = u at *
    have R1 := ksum ⟨#[77, 45]⟩ u (by show 2 + _ ≤ _; omega)
    replace S := Lib.hid S
    clear hl hsz
    go_enter Tryd.func18, Tryd.ntmps18
    go_wp2_with (go_at_call 55; refine (S.out _).mono ?_; rintro e w2 ⟨rfl, hb2⟩)
    go_ret
    rw [← he.out]; exact ⟨rfl, seqB B0 hb2⟩
  have hf := kyF_of h
  clear h
  cases hf with
  | sign v h0 h1 h =>
    have := key 1 v (by decide) (by omega) h1
    rw [show svN v = nmN (1, v, ⟨#[]⟩, false) by unfold svN; rw [if_pos h0]; rfl] at this
    exact this
  | ctrl v h0 h1 =>
    have := key 2 v (by decide) h0 (by omega)
    rw [show svN v = nmN (2, v, ⟨#[]⟩, false) by unfold svN; rw [if_neg (by omega)]; rfl] at this
    exact this
  | meta1 v h0 h1 =>
    have := key3 v (by omega) (by omega)
    exact this
  | meta0 v h0 h1 =>
    have := key3 v h0 (by omega)
    exact this
  | paste t c h => exact rname_paste t c w h
  | named kind v h1 h2 h3 h15 h =>
    rw [nm_named kind v _ _ h1 h2 h3 h15]
    obtain ⟨r, hr⟩ := Option.isSome_iff_exists.1 h
    have ⟨hm, e1, e2⟩ := find_ok hr
    have e3 : kRowOf kind v = r := by unfold kRowOf; rw [hr]; rfl
    rw [e3]
    have := rname_row r hm w
    rw [e1, e2] at this
    exact this
set_option maxHeartbeats 4000000 in
set_option maxRecDepth 100000 in
theorem rbytes_ref (k : Ky) (w : World) (hk0 : keyB k = true) : Calls Tryd.prog 19 #[kyV k] w fun e w' => e = .returned (.string (mkS (byN k))) ∧ Below w.heap.size w w' := by
  have key3 : ∀ v, 0 ≤ v → v < 128 → Calls Tryd.prog 19 #[.agg #[.int .i64 3, .int .i64 v, .string ⟨#[]⟩, .bool false]] w fun e w' => e = .returned (.string (mkS (byN (3, v, ⟨#[]⟩, false)))) ∧ Below w.heap.size w w' := fun v h0 h1 => by
    have hcv := conv2 27 v w
    have he : Hid (txt [27, v] = mkS (byN (3, v, ⟨#[]⟩, false))) := Lib.hid (by rw [by_3, one_byte h0 h1]; rfl)
    go_enter Tryd.func19, Tryd.ntmps19
    go_wp2_with fail
    go_ret
    rw [← he.out]; exact ⟨rfl, seqB (below_alloc _ _) (below_alloc _ _)⟩
  have hf := kyF_of hk0
  clear hk0
  cases hf with
  | sign v h0 h1 h =>
    have B0 := below_alloc w (.cells #[.int .i64 1, .int .i64 v, .string ⟨#[]⟩, .bool false] 23)
    have hr : rightB v = true := by rw [may_sign] at h; simp at h; exact h.2
    have S := Lib.hid fun w => bytes_ref v w hr
    rw [by_12 1 v (Or.inl rfl)]
    clear h key3 hr
    show Calls _ _ #[.agg #[.int .i64 1, .int .i64 v, .string ⟨#[]⟩, .bool false]] _ _
    go_enter Tryd.func19, Tryd.ntmps19
    go_wp2_with (go_at_call 57; refine (S.out _).mono ?_; rintro e w2 ⟨rfl, hb2⟩)
    go_ret
    exact ⟨rfl, seqB B0 hb2⟩
  | ctrl v h0 h1 =>
    have hcv := conv1 v w
    have he : Hid (txt [v] = mkS (byN (2, v, ⟨#[]⟩, false))) := Lib.hid (by rw [by_12 2 v (Or.inr rfl), one_byte h0 (by omega)]; rfl)
    clear key3
    show Calls _ _ #[.agg #[.int .i64 2, .int .i64 v, .string ⟨#[]⟩, .bool false]] _ _
    go_enter Tryd.func19, Tryd.ntmps19
    go_wp2_with fail
    go_ret
    rw [← he.out]; exact ⟨rfl, seqB (below_alloc _ _) (below_alloc _ _)⟩
  | meta1 v h0 h1 => exact key3 v (by omega) h1
  | meta0 v h0 h1 => exact key3 v h0 (by omega)
  | paste t c h =>
    have B0 := below_alloc w (.cells #[.int .i64 15, .int .i64 0, .string t, .bool c] 23)
    have he := Lib.hid (by_15 0 t c)
    have R1 := ksum ⟨#[27, 91, 50, 48, 48, 126]⟩ t (by show 6 + _ ≤ _; omega)
    have R2 := ksum (⟨#[27, 91, 50, 48, 48, 126]⟩ ++ t) ⟨#[27, 91, 50, 48, 49, 126]⟩ (by rw [ByteArray.size_append]; show 6 + _ + 6 ≤ _; omega)
    clear key3 h
    show Calls _ _ #[.agg #[.int .i64 15, .int .i64 0, .string t, .bool c]] _ _
    go_enter Tryd.func19, Tryd.ntmps19
    go_wp2_with fail
    go_ret
    rw [he.out]; exact ⟨rfl, B0⟩
  | named kind v h1 h2 h3 h15 h =>
    rw [by_named kind v _ _ h1 h2 h3 h15]
    obtain ⟨r, hr⟩ := Option.isSome_iff_exists.1 h
    have ⟨hm, e1, e2⟩ := find_ok hr
    have e3 : kRowOf kind v = r := by unfold kRowOf; rw [hr]; rfl
    rw [e3]
    have := rbytes_row r hm w
    rw [e1, e2] at this
    exact this
end Go.Proofs.YteolfbamcehcpaaDoor
