/-
  Joined: Ct4 Ct5.
-/
import Derived.Test.YteolfbamcehcpaaDoorJCa
import Derived.Test.YteolfbamcehcpaaDoorW6
set_option maxRecDepth 100000
set_option linter.unusedVariables false
set_option linter.unusedSimpArgs false
namespace Go.Proofs.YteolfbamcehcpaaDoor
set_option linter.unusedVariables false
set_option linter.unusedSimpArgs false
open Go.RowKit
def RdPost (l : List UInt8) (k : Ky) (w : World) (e : Ending) (w' : World) : Prop := e = .returned (.tuple #[.agg #[.string (mkS (doR l k).1)], .bool (doR l k).2]) ∧ Below w.heap.size w w'
theorem rdPost_of {l l' : List UInt8} {b : Bool} {k : Ky} {w w' : World} (h : doR l k = (l', b)) (hb : Below w.heap.size w w') (s : ByteArray) (hs : s = mkS l') : RdPost l k w (.returned (.tuple #[.agg #[.string s], .bool b])) w' := by
  unfold RdPost; rw [h, hs]; exact ⟨rfl, hb⟩
theorem one_set {w : World} {b : Nat} {x0 : Value} {T : TypeId} {f : Nat × Nat} (h : w.heap[b]? = some (.cells #[x0] T f)) (v0 : Value) : (w.setCell ⟨b, 0, none⟩ v0).heap[b]? = some (.cells #[v0] T f) := blk_set h 0 _
theorem dash_at {l : List UInt8} (h : dash l = true) (i : Nat) (hi : i < l.length) : l[i] = 45 := by
  unfold dash at h; rw [List.all_eq_true] at h; simpa using h l[i] (List.getElem_mem hi)
theorem dash_no {l : List UInt8} {i : Nat} (hi : i < l.length) (h : ¬ l[i] = 45) : dash l = false := by
  cases hd : dash l with
  | false => rfl
  | true => exact absurd (dash_at hd i hi) h
theorem dash_all {l : List UInt8} (h : ∀ i (hi : i < l.length), l[i] = 45) : dash l = true := by
  unfold dash; rw [List.all_eq_true]; intro x hx
  obtain ⟨i, hi, rfl⟩ := List.getElem_of_mem hx
  simpa using h i hi
theorem byte_of {S : ByteArray} {l : List UInt8} (h : mkS l = S) (i : Nat) (h1 : i < S.size) (h2 : i < l.length) : S[i] = l[i] := by subst h; simp [mkS]; rfl
set_option maxHeartbeats 16000000 in
set_option maxRecDepth 100000 in
theorem rdo_any (l : List UInt8) (k : Ky) (w : World) (hl : l.length ≤ 100000) : Calls Tryd.prog 23 #[.agg #[.string (mkS l)], .agg #[.int .i64 k.1, .int .i64 k.2.1, .string k.2.2.1, .bool k.2.2.2]] w (RdPost l k w) := by
  obtain ⟨kind, v, t, c⟩ := k
  have HD : ∀ l' b', doR l (kind, v, t, c) = (l', b') → ∀ w' s, Below w.heap.size w w' → s = mkS l' → RdPost l (kind, v, t, c) w (.returned (.tuple #[.agg #[.string s], .bool b'])) w' := fun l' b' h w' s hb hs => rdPost_of h hb s hs
  have hD : doR l (kind, v, t, c) = if (kind ≠ 3 ∧ (kind ≠ 1 ∨ l = [])) ∨ t ≠ ⟨#[]⟩ ∨ c = true then (l, false) else if 48 ≤ v ∧ v ≤ 57 then (l ++ [v.toNat.toUInt8], true) else if kind ≠ 3 ∨ v ≠ 45 then (l, false) else if dash l then (l ++ [45], true) else (l, false) := rfl
  rw [hD] at HD
  clear hD
  dsimp only
  obtain ⟨S, hS⟩ : ∃ S, mkS l = S := ⟨_, rfl⟩
  have hSl : S.size = l.length := by rw [← hS]; exact mkS_size l
  have nocond : (kind ≠ 3 ∧ (kind ≠ 1 ∨ l = [])) ∨ t ≠ ⟨#[]⟩ ∨ c = true → ∀ w' s, Below w.heap.size w w' → s = S → RdPost l (kind, v, t, c) w (.returned (.tuple #[.agg #[.string s], .bool false])) w' := fun h => by
    rw [if_pos h] at HD
    exact fun w' s hb hs => HD l false rfl w' s hb (by rw [hs, hS])
  have hnil : l = [] → S = ⟨#[]⟩ := fun h => by rw [← hS, h]
  have hne : l ≠ [] → ¬ S.toList = [] := fun h => kstr_nil (fun e => h (by have := hSl; rw [e] at this; exact List.length_eq_zero_iff.1 this.symm))
  rw [hS]
  have B0 : Below w.heap.size w (((w.alloc (.cells #[.string S] 43)).alloc (.cells #[.int .i64 kind, .int .i64 v, .string t, .bool c] 23)).alloc (.cells #[.string ⟨#[]⟩] 43)) := seqB (seqB (below_alloc _ _) (below_alloc _ _)) (below_alloc _ _)
  have q0 := heap_alloc_new w (.cells #[.string S] 43)
  have q1 := heap_alloc_new (w.alloc (.cells #[.string S] 43)) (.cells #[.int .i64 kind, .int .i64 v, .string t, .bool c] 23)
  have q2 := heap_alloc_new ((w.alloc (.cells #[.string S] 43)).alloc (.cells #[.int .i64 kind, .int .i64 v, .string t, .bool c] 23)) (.cells #[.string ⟨#[]⟩] 43)
  have r0 := blk_alloc (blk_alloc q0 (.cells #[.int .i64 kind, .int .i64 v, .string t, .bool c] 23)) (.cells #[.string ⟨#[]⟩] 43)
  have r1 := blk_alloc q1 (.cells #[.string ⟨#[]⟩] 43)
  rw [show (w.alloc (.cells #[.string S] 43)).heap.size = w.heap.size + 1 by simp] at r1
  rw [show ((w.alloc (.cells #[.string S] 43)).alloc (.cells #[.int .i64 kind, .int .i64 v, .string t, .bool c] 23)).heap.size = w.heap.size + 1 + 1 by simp] at q2
  obtain ⟨W0, hW0⟩ : ∃ W0, ((w.alloc (.cells #[.string S] 43)).alloc (.cells #[.int .i64 kind, .int .i64 v, .string t, .bool c] 23)).alloc (.cells #[.string ⟨#[]⟩] 43) = W0 := ⟨_, rfl⟩
  rw [hW0] at B0 r0 r1 q2
  clear q0 q1
  have g0 := cell_of_row _ _ 0 _ _ _ r0
  have yy := fun i => cell_of_row _ _ i _ _ _ r1
  have y0 := yy 0; have y1 := yy 1; have y2 := yy 2; have y3 := yy 3
  have z0 := cell_of_row _ _ 0 _ _ _ q2
  dsimp at g0 y0 y1 y2 y3 z0
  have zf := fun i => frozen_of_row _ (w.heap.size + 1 + 1) i _ _ q2
  have hlt0 := blk_lt r0; have hlt1 := blk_lt r1; have hlt2 := blk_lt q2
  have HB := Lib.hid B0
  have Q2 := Lib.hid q2
  clear yy r0 r1 q2 B0
  by_cases hk3 : kind = 3
  · subst hk3
    by_cases ht : t = ⟨#[]⟩
    · subst ht
      cases c with
      | true =>
        have HF := Lib.hid (nocond (Or.inr (Or.inr rfl)))
        clear HD nocond hnil hne
        go_enter Tryd.func23, Tryd.ntmps23
        go_upto_region 1 with fail
        clear hW0
        have hfin := Lib.hid (one_set (Q2.out) (.string (S)))
        have NF := Lib.hid ((HB.out).setCell (p := ⟨w.heap.size + 1 + 1, 0, none⟩) (by show w.heap.size ≤ w.heap.size + 1 + 1; omega) (.string (S)))
        go_wp2_with fail
        generalize hWF : World.setCell _ _ _ = WF
        have hqf : WF.heap[w.heap.size + 1 + 1]? = some (.cells #[.string (S)] 43 (0, 0)) := by rw [← hWF]; exact hfin.out
        have hN : Below w.heap.size w WF := by rw [← hWF]; exact NF.out
        have u0 := cell_of_row _ _ 0 _ _ _ hqf
        dsimp at u0
        clear hqf hWF
        refine bodyPost_ret (v := .tuple #[.agg #[.string (S)], .bool false]) (by simp [results, Tryd.results23, go_sem, u0]) rfl ?_
        exact HF.out _ _ hN rfl
      | false =>
        rw [if_neg (by simp)] at HD
        by_cases hd : 48 ≤ v ∧ v ≤ 57
        · rw [if_pos hd] at HD
          obtain ⟨hd0, hd1⟩ := hd
          have hcv := conv_new W0 [v] 1 rfl
          simp only [List.map_cons, List.map_nil] at hcv
          have hcv : ∀ dst, Tryd.prog.underlying dst = some .string → (convert 71 dst (.slice (some ⟨W0.heap.size, 0, none⟩) 1 1)).run Tryd.prog (W0.alloc (Obj.cells #[.int .u8 v] 5)) = .ok (.string (txt [v])) (W0.alloc (Obj.cells #[.int .u8 v] 5)) := hcv
          have hs : Hid (S ++ txt [v] = mkS (l ++ [v.toNat.toUInt8])) := Lib.hid (by rw [← hS, show txt [v] = mkS [v.toNat.toUInt8] from rfl, mkS_app])
          have R1 := ksum S (txt [v]) (by rw [txt_size]; show _ + 1 ≤ 8388608; omega)
          have HF := Lib.hid fun w' s hb hs => HD (l ++ [v.toNat.toUInt8]) true rfl w' s hb hs
          generalize txt [v] = u at *
          clear HD nocond hnil hne
          go_enter Tryd.func23, Tryd.ntmps23
          go_upto_region 1 with fail
          clear hW0
          have hfin := Lib.hid (one_set (Q2.out) (.string (S ++ u)))
          have NF := Lib.hid ((HB.out).setCell (p := ⟨w.heap.size + 1 + 1, 0, none⟩) (by show w.heap.size ≤ w.heap.size + 1 + 1; omega) (.string (S ++ u)))
          go_wp2_with fail
          generalize hWF : World.setCell _ _ _ = WF
          have hqf : WF.heap[w.heap.size + 1 + 1]? = some (.cells #[.string (S ++ u)] 43 (0, 0)) := by rw [← hWF]; exact hfin.out
          have hN : Below w.heap.size w WF := by rw [← hWF]; exact NF.out
          have u0 := cell_of_row _ _ 0 _ _ _ (blk_alloc hqf (Obj.cells #[.int .u8 v] 5))
          dsimp at u0
          clear hqf hWF
          refine bodyPost_ret (v := .tuple #[.agg #[.string (S ++ u)], .bool true]) (by simp [results, Tryd.results23, go_sem, u0]) rfl ?_
          exact HF.out _ _ (seqB hN (below_alloc WF (Obj.cells #[.int .u8 v] 5))) hs.out
        · rw [if_neg hd] at HD
          by_cases h45 : v = 45
          · subst h45
            rw [if_neg (by simp)] at HD
            clear hd nocond
            have HDt := Lib.hid fun h w' s hb hs => (by rw [if_pos h] at HD; exact HD (l ++ [45]) true rfl w' s hb hs : RdPost l (3, 45, ⟨#[]⟩, false) w (.returned (.tuple #[.agg #[.string s], .bool true])) w')
            have HDf := Lib.hid fun h w' s hb hs => (by rw [if_neg h] at HD; exact HD l false rfl w' s hb hs : RdPost l (3, 45, ⟨#[]⟩, false) w (.returned (.tuple #[.agg #[.string s], .bool false])) w')
            have hcat : Hid (S ++ ⟨#[45]⟩ = mkS (l ++ [45])) := Lib.hid (by rw [← hS, show (⟨#[45]⟩ : ByteArray) = mkS [45] from rfl, mkS_app])
            have R1 := ksum S ⟨#[45]⟩ (by show _ + 1 ≤ 8388608; omega)
            have hSh := Lib.hid hS
            clear HD hnil hne hS
            go_enter Tryd.func23, Tryd.ntmps23
            go_upto_region 1 with fail
            clear hW0
            go_wp2_with fail
            go_loopw [6] (fun iv wr => ∃ j : Nat, j ≤ S.size ∧ iv = .int .i64 (j : Int) ∧ Hid (∀ i (hi : i < l.length), i < j → l[i] = 45) ∧ W0 = wr) (fun iv _ => S.size - (intOf iv).toNat)
            case atStart => exact ⟨0, Nat.zero_le _, rfl, Lib.hid (fun i hi h => by omega), rfl⟩
            case round =>
              obtain ⟨j, hj, rfl, HI, rfl⟩ := hrel
              by_cases hlt : j < S.size
              · have hj1 : (j : Int) < S.size := by omega
                have hj0 : (0 : Int) ≤ j := by omega
                have hb := byte_of hSh.out j hlt (by omega)
                by_cases he : l[j]'(by omega) = 45
                · have hv : ((S[j]).toNat : Int) = 45 := by rw [hb, he]; rfl
                  have HI2 : Hid (∀ i (hi : i < l.length), i < j + 1 → l[i] = 45) := Lib.hid (fun i hi h => by
                    by_cases hij : i = j
                    · subst hij; exact he
                    · exact HI.out i hi (by omega))
                  clear HI hb he
                  go_wp2_with fail
                  go_roundw
                  case rel => exact ⟨j + 1, by omega, by go_num, HI2, by first | rfl | trivial⟩
                  case measure => (simp [intOf]; try omega)
                · have hv : ¬ ((S[j]).toNat : Int) = 45 := by rw [hb]; intro e; exact he (UInt8.toNat_inj.1 (by show _ = 45; omega))
                  have hds : dash l = false := dash_no (by omega) he
                  have HF := Lib.hid (HDf.out (by rw [hds]; decide))
                  clear HI hb he hds
                  have hfin := Lib.hid (one_set (Q2.out) (.string (S)))
                  have NF := Lib.hid ((HB.out).setCell (p := ⟨w.heap.size + 1 + 1, 0, none⟩) (by show w.heap.size ≤ w.heap.size + 1 + 1; omega) (.string (S)))
                  go_wp2_with fail
                  generalize hWF : World.setCell _ _ _ = WF
                  have hqf : WF.heap[w.heap.size + 1 + 1]? = some (.cells #[.string (S)] 43 (0, 0)) := by rw [← hWF]; exact hfin.out
                  have hN : Below w.heap.size w WF := by rw [← hWF]; exact NF.out
                  have u0 := cell_of_row _ _ 0 _ _ _ hqf
                  dsimp at u0
                  clear hqf hWF
                  refine bodyPost_ret (v := .tuple #[.agg #[.string (S)], .bool false]) (by simp [results, Tryd.results23, go_sem, u0]) rfl ?_
                  exact HF.out _ _ hN hSh.out.symm
              · have hds : dash l = true := dash_all (fun i hi => HI.out i hi (by omega))
                have HF := Lib.hid (HDt.out hds)
                clear HI hds
                have hfin := Lib.hid (one_set (Q2.out) (.string (S ++ ⟨#[45]⟩)))
                have NF := Lib.hid ((HB.out).setCell (p := ⟨w.heap.size + 1 + 1, 0, none⟩) (by show w.heap.size ≤ w.heap.size + 1 + 1; omega) (.string (S ++ ⟨#[45]⟩)))
                go_wp2_with fail
                generalize hWF : World.setCell _ _ _ = WF
                have hqf : WF.heap[w.heap.size + 1 + 1]? = some (.cells #[.string (S ++ ⟨#[45]⟩)] 43 (0, 0)) := by rw [← hWF]; exact hfin.out
                have hN : Below w.heap.size w WF := by rw [← hWF]; exact NF.out
                have u0 := cell_of_row _ _ 0 _ _ _ hqf
                dsimp at u0
                clear hqf hWF
                refine bodyPost_ret (v := .tuple #[.agg #[.string (S ++ ⟨#[45]⟩)], .bool true]) (by simp [results, Tryd.results23, go_sem, u0]) rfl ?_
                exact HF.out _ _ hN hcat.out
          · rw [if_pos (Or.inr h45)] at HD
            have HF := Lib.hid fun w' s hb (hs : s = S) => HD l false rfl w' s hb (hs.trans hS.symm)
            clear HD nocond hnil hne
            by_cases h48 : 48 ≤ v
            · have h57 : ¬ v ≤ 57 := fun h => hd ⟨h48, h⟩
              clear hd
              go_enter Tryd.func23, Tryd.ntmps23
              go_upto_region 1 with fail
              clear hW0
              have hfin := Lib.hid (one_set (Q2.out) (.string (S)))
              have NF := Lib.hid ((HB.out).setCell (p := ⟨w.heap.size + 1 + 1, 0, none⟩) (by show w.heap.size ≤ w.heap.size + 1 + 1; omega) (.string (S)))
              go_wp2_with fail
              generalize hWF : World.setCell _ _ _ = WF
              have hqf : WF.heap[w.heap.size + 1 + 1]? = some (.cells #[.string (S)] 43 (0, 0)) := by rw [← hWF]; exact hfin.out
              have hN : Below w.heap.size w WF := by rw [← hWF]; exact NF.out
              have u0 := cell_of_row _ _ 0 _ _ _ hqf
              dsimp at u0
              clear hqf hWF
              refine bodyPost_ret (v := .tuple #[.agg #[.string (S)], .bool false]) (by simp [results, Tryd.results23, go_sem, u0]) rfl ?_
              exact HF.out _ _ hN rfl
            · clear hd
              go_enter Tryd.func23, Tryd.ntmps23
              go_upto_region 1 with fail
              clear hW0
              have hfin := Lib.hid (one_set (Q2.out) (.string (S)))
              have NF := Lib.hid ((HB.out).setCell (p := ⟨w.heap.size + 1 + 1, 0, none⟩) (by show w.heap.size ≤ w.heap.size + 1 + 1; omega) (.string (S)))
              go_wp2_with fail
              generalize hWF : World.setCell _ _ _ = WF
              have hqf : WF.heap[w.heap.size + 1 + 1]? = some (.cells #[.string (S)] 43 (0, 0)) := by rw [← hWF]; exact hfin.out
              have hN : Below w.heap.size w WF := by rw [← hWF]; exact NF.out
              have u0 := cell_of_row _ _ 0 _ _ _ hqf
              dsimp at u0
              clear hqf hWF
              refine bodyPost_ret (v := .tuple #[.agg #[.string (S)], .bool false]) (by simp [results, Tryd.results23, go_sem, u0]) rfl ?_
              exact HF.out _ _ hN rfl
    · have HF := Lib.hid (nocond (Or.inr (Or.inl ht)))
      have s3 : ¬ t.toList = [] := kstr_nil ht
      clear HD nocond hnil hne
      go_enter Tryd.func23, Tryd.ntmps23
      go_upto_region 1 with fail
      clear hW0
      have hfin := Lib.hid (one_set (Q2.out) (.string (S)))
      have NF := Lib.hid ((HB.out).setCell (p := ⟨w.heap.size + 1 + 1, 0, none⟩) (by show w.heap.size ≤ w.heap.size + 1 + 1; omega) (.string (S)))
      go_wp2_with fail
      generalize hWF : World.setCell _ _ _ = WF
      have hqf : WF.heap[w.heap.size + 1 + 1]? = some (.cells #[.string (S)] 43 (0, 0)) := by rw [← hWF]; exact hfin.out
      have hN : Below w.heap.size w WF := by rw [← hWF]; exact NF.out
      have u0 := cell_of_row _ _ 0 _ _ _ hqf
      dsimp at u0
      clear hqf hWF
      refine bodyPost_ret (v := .tuple #[.agg #[.string (S)], .bool false]) (by simp [results, Tryd.results23, go_sem, u0]) rfl ?_
      exact HF.out _ _ hN rfl
  · by_cases hk1 : kind = 1
    · subst hk1
      by_cases hln : l = []
      · have HF := Lib.hid (nocond (Or.inl ⟨by decide, Or.inr hln⟩))
        have hS0 : S.toList = [] := by rw [hnil hln, ByteArray.toList_eq]
        have hS1 : (S.toList == []) = true := by rw [hS0]; rfl
        clear HD nocond hnil hne
        go_enter Tryd.func23, Tryd.ntmps23
        go_upto_region 1 with fail
        clear hW0
        have hfin := Lib.hid (one_set (Q2.out) (.string (S)))
        have NF := Lib.hid ((HB.out).setCell (p := ⟨w.heap.size + 1 + 1, 0, none⟩) (by show w.heap.size ≤ w.heap.size + 1 + 1; omega) (.string (S)))
        go_wp2_with fail
        generalize hWF : World.setCell _ _ _ = WF
        have hqf : WF.heap[w.heap.size + 1 + 1]? = some (.cells #[.string (S)] 43 (0, 0)) := by rw [← hWF]; exact hfin.out
        have hN : Below w.heap.size w WF := by rw [← hWF]; exact NF.out
        have u0 := cell_of_row _ _ 0 _ _ _ hqf
        dsimp at u0
        clear hqf hWF
        refine bodyPost_ret (v := .tuple #[.agg #[.string (S)], .bool false]) (by simp [results, Tryd.results23, go_sem, u0]) rfl ?_
        exact HF.out _ _ hN rfl
      · have s4 := hne hln
        have s5 : (S.toList == []) = false := by simpa using s4
        have s6 : S.toList.isEmpty = false := by simpa using s4
        by_cases ht : t = ⟨#[]⟩
        · subst ht
          cases c with
          | true =>
            have HF := Lib.hid (nocond (Or.inr (Or.inr rfl)))
            clear HD nocond hnil hne
            go_enter Tryd.func23, Tryd.ntmps23
            go_upto_region 1 with fail
            clear hW0
            have hfin := Lib.hid (one_set (Q2.out) (.string (S)))
            have NF := Lib.hid ((HB.out).setCell (p := ⟨w.heap.size + 1 + 1, 0, none⟩) (by show w.heap.size ≤ w.heap.size + 1 + 1; omega) (.string (S)))
            go_wp2_with fail
            generalize hWF : World.setCell _ _ _ = WF
            have hqf : WF.heap[w.heap.size + 1 + 1]? = some (.cells #[.string (S)] 43 (0, 0)) := by rw [← hWF]; exact hfin.out
            have hN : Below w.heap.size w WF := by rw [← hWF]; exact NF.out
            have u0 := cell_of_row _ _ 0 _ _ _ hqf
            dsimp at u0
            clear hqf hWF
            refine bodyPost_ret (v := .tuple #[.agg #[.string (S)], .bool false]) (by simp [results, Tryd.results23, go_sem, u0]) rfl ?_
            exact HF.out _ _ hN rfl
          | false =>
            rw [if_neg (by simp [hln])] at HD
            by_cases hd : 48 ≤ v ∧ v ≤ 57
            · rw [if_pos hd] at HD
              obtain ⟨hd0, hd1⟩ := hd
              have hcv := conv_new W0 [v] 1 rfl
              simp only [List.map_cons, List.map_nil] at hcv
              have hcv : ∀ dst, Tryd.prog.underlying dst = some .string → (convert 71 dst (.slice (some ⟨W0.heap.size, 0, none⟩) 1 1)).run Tryd.prog (W0.alloc (Obj.cells #[.int .u8 v] 5)) = .ok (.string (txt [v])) (W0.alloc (Obj.cells #[.int .u8 v] 5)) := hcv
              have hs : Hid (S ++ txt [v] = mkS (l ++ [v.toNat.toUInt8])) := Lib.hid (by rw [← hS, show txt [v] = mkS [v.toNat.toUInt8] from rfl, mkS_app])
              have R1 := ksum S (txt [v]) (by rw [txt_size]; show _ + 1 ≤ 8388608; omega)
              have HF := Lib.hid fun w' s hb hs => HD (l ++ [v.toNat.toUInt8]) true rfl w' s hb hs
              generalize txt [v] = u at *
              clear HD nocond hnil hne
              go_enter Tryd.func23, Tryd.ntmps23
              go_upto_region 1 with fail
              clear hW0
              have hfin := Lib.hid (one_set (Q2.out) (.string (S ++ u)))
              have NF := Lib.hid ((HB.out).setCell (p := ⟨w.heap.size + 1 + 1, 0, none⟩) (by show w.heap.size ≤ w.heap.size + 1 + 1; omega) (.string (S ++ u)))
              go_wp2_with fail
              generalize hWF : World.setCell _ _ _ = WF
              have hqf : WF.heap[w.heap.size + 1 + 1]? = some (.cells #[.string (S ++ u)] 43 (0, 0)) := by rw [← hWF]; exact hfin.out
              have hN : Below w.heap.size w WF := by rw [← hWF]; exact NF.out
              have u0 := cell_of_row _ _ 0 _ _ _ (blk_alloc hqf (Obj.cells #[.int .u8 v] 5))
              dsimp at u0
              clear hqf hWF
              refine bodyPost_ret (v := .tuple #[.agg #[.string (S ++ u)], .bool true]) (by simp [results, Tryd.results23, go_sem, u0]) rfl ?_
              exact HF.out _ _ (seqB hN (below_alloc WF (Obj.cells #[.int .u8 v] 5))) hs.out
            · rw [if_neg hd, if_pos (Or.inl (by decide))] at HD
              have HF := Lib.hid fun w' s hb (hs : s = S) => HD l false rfl w' s hb (hs.trans hS.symm)
              clear HD nocond hnil hne
              by_cases h48 : 48 ≤ v
              · have h57 : ¬ v ≤ 57 := fun h => hd ⟨h48, h⟩
                clear hd
                go_enter Tryd.func23, Tryd.ntmps23
                go_upto_region 1 with fail
                clear hW0
                have hfin := Lib.hid (one_set (Q2.out) (.string (S)))
                have NF := Lib.hid ((HB.out).setCell (p := ⟨w.heap.size + 1 + 1, 0, none⟩) (by show w.heap.size ≤ w.heap.size + 1 + 1; omega) (.string (S)))
                go_wp2_with fail
                generalize hWF : World.setCell _ _ _ = WF
                have hqf : WF.heap[w.heap.size + 1 + 1]? = some (.cells #[.string (S)] 43 (0, 0)) := by rw [← hWF]; exact hfin.out
                have hN : Below w.heap.size w WF := by rw [← hWF]; exact NF.out
                have u0 := cell_of_row _ _ 0 _ _ _ hqf
                dsimp at u0
                clear hqf hWF
                refine bodyPost_ret (v := .tuple #[.agg #[.string (S)], .bool false]) (by simp [results, Tryd.results23, go_sem, u0]) rfl ?_
                exact HF.out _ _ hN rfl
              · clear hd
                go_enter Tryd.func23, Tryd.ntmps23
                go_upto_region 1 with fail
                clear hW0
                have hfin := Lib.hid (one_set (Q2.out) (.string (S)))
                have NF := Lib.hid ((HB.out).setCell (p := ⟨w.heap.size + 1 + 1, 0, none⟩) (by show w.heap.size ≤ w.heap.size + 1 + 1; omega) (.string (S)))
                go_wp2_with fail
                generalize hWF : World.setCell _ _ _ = WF
                have hqf : WF.heap[w.heap.size + 1 + 1]? = some (.cells #[.string (S)] 43 (0, 0)) := by rw [← hWF]; exact hfin.out
                have hN : Below w.heap.size w WF := by rw [← hWF]; exact NF.out
                have u0 := cell_of_row _ _ 0 _ _ _ hqf
                dsimp at u0
                clear hqf hWF
                refine bodyPost_ret (v := .tuple #[.agg #[.string (S)], .bool false]) (by simp [results, Tryd.results23, go_sem, u0]) rfl ?_
                exact HF.out _ _ hN rfl
        · have HF := Lib.hid (nocond (Or.inr (Or.inl ht)))
          have s3 : ¬ t.toList = [] := kstr_nil ht
          clear HD nocond hnil hne
          go_enter Tryd.func23, Tryd.ntmps23
          go_upto_region 1 with fail
          clear hW0
          have hfin := Lib.hid (one_set (Q2.out) (.string (S)))
          have NF := Lib.hid ((HB.out).setCell (p := ⟨w.heap.size + 1 + 1, 0, none⟩) (by show w.heap.size ≤ w.heap.size + 1 + 1; omega) (.string (S)))
          go_wp2_with fail
          generalize hWF : World.setCell _ _ _ = WF
          have hqf : WF.heap[w.heap.size + 1 + 1]? = some (.cells #[.string (S)] 43 (0, 0)) := by rw [← hWF]; exact hfin.out
          have hN : Below w.heap.size w WF := by rw [← hWF]; exact NF.out
          have u0 := cell_of_row _ _ 0 _ _ _ hqf
          dsimp at u0
          clear hqf hWF
          refine bodyPost_ret (v := .tuple #[.agg #[.string (S)], .bool false]) (by simp [results, Tryd.results23, go_sem, u0]) rfl ?_
          exact HF.out _ _ hN rfl
    · have HF := Lib.hid (nocond (Or.inl ⟨hk3, Or.inl hk1⟩))
      clear HD nocond hnil hne
      go_enter Tryd.func23, Tryd.ntmps23
      go_upto_region 1 with fail
      clear hW0
      have hfin := Lib.hid (one_set (Q2.out) (.string (S)))
      have NF := Lib.hid ((HB.out).setCell (p := ⟨w.heap.size + 1 + 1, 0, none⟩) (by show w.heap.size ≤ w.heap.size + 1 + 1; omega) (.string (S)))
      go_wp2_with fail
      generalize hWF : World.setCell _ _ _ = WF
      have hqf : WF.heap[w.heap.size + 1 + 1]? = some (.cells #[.string (S)] 43 (0, 0)) := by rw [← hWF]; exact hfin.out
      have hN : Below w.heap.size w WF := by rw [← hWF]; exact NF.out
      have u0 := cell_of_row _ _ 0 _ _ _ hqf
      dsimp at u0
      clear hqf hWF
      refine bodyPost_ret (v := .tuple #[.agg #[.string (S)], .bool false]) (by simp [results, Tryd.results23, go_sem, u0]) rfl ?_
      exact HF.out _ _ hN rfl
end Go.Proofs.YteolfbamcehcpaaDoor
namespace Go.Proofs.YteolfbamcehcpaaDoor
open Go.RowKit
theorem rlow (a : Int) (w : World) (r : Int) (h : min a 9999 = r) : Calls Tryd.prog 29 #[.int .i64 a, .int .i64 9999] w fun e w' => e = .returned (.int .i64 r) ∧ w = w' :=
  (low_any a 9999 w).mono fun e w' hh => ⟨by rw [hh.1, ← h]; congr 2; unfold lowI; split <;> omega, hh.2⟩
theorem cs_take {l : List UInt8} (j : Nat) (h : j < l.length) : csOf (l.take (j + 1)) = csStep (csOf (l.take j)) l[j] := by
  rw [List.take_succ_eq_append_getElem h, csOf_snoc]
theorem CsG.take {l : List UInt8} (h : CsG l) (j : Nat) : CsG (l.take j) := fun b hb => h b (List.mem_of_mem_take hb)
set_option maxHeartbeats 8000000 in
set_option maxRecDepth 100000 in
theorem rvalC_any (l : List UInt8) (w : World) (hg : CsG l) (hl : l.length ≤ 100000) : Calls Tryd.prog 25 #[.agg #[.string (mkS l)]] w fun e w' => e = .returned (.tuple #[.int .i64 (csVal (csOf l)), .bool (csBg (csOf l))]) ∧ Below w.heap.size w w' := by
  obtain ⟨S, hS⟩ : ∃ S, mkS l = S := ⟨_, rfl⟩
  have hSl : S.size = l.length := by rw [← hS]; exact mkS_size l
  rw [hS]
  have B0 := below_alloc w (.cells #[.string S] 43)
  have q0 := heap_alloc_new w (.cells #[.string S] 43)
  obtain ⟨W0, hW0⟩ : ∃ W0, w.alloc (.cells #[.string S] 43) = W0 := ⟨_, rfl⟩
  rw [hW0] at B0 q0
  have g0 := cell_of_row _ _ 0 _ _ _ q0
  dsimp at g0
  have hlt0 := blk_lt q0
  have HB := Lib.hid B0
  have hSh := Lib.hid hS
  have hG := Lib.hid hg
  clear q0 B0 hS hg
  have hbgl : csBg (csOf l) = decide (l ≠ []) := cs_bg l
  obtain ⟨V, hV⟩ : ∃ V, csVal (csOf l) = V := ⟨_, rfl⟩
  obtain ⟨g, hgg⟩ : ∃ g, csBg (csOf l) = g := ⟨_, rfl⟩
  rw [hV, hgg]
  have HV0 := Lib.hid hV
  have HG0 := Lib.hid hgg
  clear hV hgg
  go_enter Tryd.func25, Tryd.ntmps25
  go_upto_region 1 with fail
  clear hW0
  go_wp2_with fail
  go_loopw [4, 5, 6, 7] (fun nv dv bv iv wr => ∃ j : Nat, j ≤ S.size ∧ iv = .int .i64 (j : Int) ∧ nv = .int .i64 (csOf (l.take j)).2.2.1 ∧ dv = .bool (csOf (l.take j)).2.1 ∧ bv = .bool (csOf (l.take j)).2.2.2 ∧ W0 = wr) (fun _ _ _ iv _ => S.size - (intOf iv).toNat)
  case atStart => exact ⟨0, Nat.zero_le _, rfl, rfl, rfl, rfl, rfl⟩
  case round =>
    obtain ⟨j, hj, rfl, rfl, rfl, rfl, rfl⟩ := hrel
    have hnum := cs_num (hG.out.take j)
    by_cases hlt : j < S.size
    · have hj1 : (j : Int) < S.size := by omega
      have hj0 : (0 : Int) ≤ j := by omega
      have hb := byte_of hSh.out j hlt (by omega)
      have hst := cs_take (l := l) j (by omega)
      have hgd := hG.out (l[j]'(by omega)) (List.getElem_mem _)
      obtain ⟨x, hx⟩ : ∃ x, l[j]'(by omega) = x := ⟨_, rfl⟩
      rw [hx] at hb hst hgd
      by_cases he : x = 45
      · have hv : ((S[j]).toNat : Int) = 45 := by rw [hb, he]; rfl
        have hst2 : Hid (csOf (l.take (j + 1)) = csMinus (csOf (l.take j))) := Lib.hid (by rw [hst, he]; rfl)
        generalize csOf (l.take j) = s at *
        clear hst hb hx hgd he
        go_wp2_with fail
        go_roundw
        case rel => exact ⟨j + 1, by omega, by go_num, by rw [hst2.out]; rfl, by rw [hst2.out]; rfl, by rw [hst2.out]; rfl, by first | rfl | trivial⟩
        case measure => (simp [intOf]; try omega)
      · have hgd2 : 48 ≤ x.toNat ∧ x.toNat ≤ 57 := by rcases hgd with h | h; exact absurd h he; exact h
        have hxe : (S[j]).toNat = x.toNat := by rw [hb]
        have hv : ¬ ((S[j]).toNat : Int) = 45 := by rw [hxe]; omega
        have hst2 : Hid (csOf (l.take (j + 1)) = csWith (csOf (l.take j)) ((x.toNat : Int) - 48)) := Lib.hid (by rw [hst]; unfold csStep; rw [if_neg he])
        generalize csOf (l.take j) = s at *
        have hb48 : (48 : Int) ≤ (S[j]).toNat := by rw [hxe]; omega
        have hb57 : ((S[j]).toNat : Int) ≤ 57 := by rw [hxe]; omega
        have hw : True → wrap64 ((S[j]).toNat : Int) = ((S[j]).toNat : Int) := fun _ => by unfold wrap64; omega
        have LO := Lib.hid fun w => rlow (s.2.2.1 * 10 + ((S[j]).toNat : Int) - 48) w (min (s.2.2.1 * 10 + ((x.toNat : Int) - 48)) 9999) (by rw [hxe]; congr 1; omega)
        clear hst hb hx hgd he hgd2 hxe
        go_wp2_with (go_at_call 29; refine (LO.out _).mono ?_; rintro e w3 ⟨rfl, rfl⟩)
        go_roundw
        case rel => exact ⟨j + 1, by omega, by go_num, by rw [hst2.out]; rfl, by rw [hst2.out]; rfl, by rw [hst2.out]; rfl, by first | rfl | trivial⟩
        case measure => (simp [intOf]; try omega)
    · have htk : l.take j = l := List.take_of_length_le (by omega)
      rw [htk] at hnum ⊢
      have hne : S.toList = l := by rw [← hSh.out, ByteArray.toList_eq]
      by_cases hln : l = []
      · subst hln
        have HVc : Hid (V = 1) := Lib.hid (by rw [← HV0.out]; decide)
        have HGc : Hid (g = false) := Lib.hid (by rw [← HG0.out]; decide)
        have e0 : csOf [] = (false, false, 0, false) := rfl
        rw [e0]
        have n1 : (S.toList == []) = true := by rw [hne]; rfl
        have n2 : (S.toList != []) = false := by rw [hne]; rfl
        clear hnum hbgl e0 HV0 HG0
        dsimp only
        go_upto_region 15 with fail
        go_quiet (fail)
        go_wp2_with fail
        go_ret2
        rw [HVc.out, HGc.out]
        exact ⟨rfl, drewN_below HB.out _⟩
      · have hl0 : ¬ S.toList = [] := by rw [hne]; exact hln
        have n1 : (S.toList == []) = false := by simpa using hl0
        have n2 : (S.toList != []) = true := by simpa using hl0
        have n3 : S.toList.isEmpty = false := by simpa using hl0
        have hbg : csBg (csOf l) = true := by rw [hbgl]; exact decide_eq_true hln
        have HVc : V = (if (csOf l).2.2.2 then -(if (csOf l).2.1 then (csOf l).2.2.1 else 1) else (if (csOf l).2.1 then (csOf l).2.2.1 else 1)) := by rw [← HV0.out]; unfold csVal; rw [hbg, if_pos rfl]; rfl
        have HGc : Hid (g = true) := Lib.hid (by rw [← HG0.out]; exact hbg)
        obtain ⟨⟨a, dd, n, bb⟩, hs⟩ : ∃ s, csOf l = s := ⟨_, rfl⟩
        rw [hs] at hnum HVc ⊢
        dsimp only at hnum HVc ⊢
        replace HVc := Lib.hid HVc
        clear hbg hs hbgl hne htk HV0 HG0
        cases dd <;> cases bb
        all_goals
          go_upto_region 15 with fail
          go_quiet (fail)
          go_wp2_with fail
          go_ret2
          rw [HVc.out, HGc.out]
          exact ⟨rfl, drewN_below HB.out _⟩
end Go.Proofs.YteolfbamcehcpaaDoor
