import Derived.Test.YtdifkjmpdmlobaaDoorE1
import Derived.Laws.BytesArg
namespace Go.Proofs.YtdifkjmpdmlobaaDoor
set_option linter.unusedVariables false
set_option linter.unusedSimpArgs false
set_option maxRecDepth 100000
open Go.RowKit
def u8s (l : List Int) : List Value := l.map (Value.int .u8)
structure EncInv (l : List Int) (a : Option Addr) (w : World) (k : Nat) (v : Value) (wr : World) : Prop where
  own : wr.ownsRow w.heap.size 5 1 v (encI (l.take k)).length (u8s (encI (l.take k)))
  bl : Below w.heap.size w wr
  le : k ≤ l.length
theorem enc_take (l : List Int) (k : Nat) (h : k < l.length) : encI (l.take (k + 1)) = encI (l.take k) ++ oneI (l.getD k 0) := by
  rw [List.take_add_one, encI_append, List.getElem?_eq_getElem h]
  simp [encI, List.getD, List.getElem?_eq_getElem h]
theorem enc_take_len (l : List Int) (k : Nat) (h : l.length ≤ 1000000) : (encI (l.take k)).length ≤ 4000000 := by
  have := encI_len (l.take k); simp at this; omega
theorem conv_own {w : World} {B : Nat} {v : Value} {l : List Int} (h : w.ownsRow B 5 1 v (encI l).length (u8s (encI l))) :
    ∀ dst, Tryd.prog.underlying dst = some .string → (convert 148 dst v).run Tryd.prog w = .ok (.string (encS l)) w := by
  intro dst hd
  rcases h.2 with ⟨rfl, h0⟩ | ⟨g, cap, cur, rfl, _, _, _⟩
  · have e : encI l = [] := List.eq_nil_of_length_eq_zero h0
    rw [run_convert_bytes_nil w _ 5 Tryd.underlying148 Tryd.underlying5 0 0 dst hd, encS, e]
    rfl
  · rw [run_convert_bytes_arg w _ 5 Tryd.underlying148 Tryd.underlying5 g 0 _ _ (encI l) rfl (fun i hi => ?_) dst hd]
    · rfl
    · have := h.cells (g := g) rfl i (.int .u8 ((encI l).getD i 0)) (by simp [u8s, List.getElem?_eq_getElem hi, List.getD])
      have hadd : (⟨g, 0, none⟩ : Addr).add i = ⟨g, 0 + i, none⟩ := by unfold Addr.add; split <;> simp_all
      rw [← hadd]; exact this
set_option maxRecDepth 100000 in
set_option maxHeartbeats 2000000 in
theorem encode_any (l : List Int) (a : Option Addr) (c : Nat) (w : World) (hl : l.length ≤ 1000000) (hr : Row w a l) :
    Calls Tryd.prog 70 #[.slice a l.length c] w fun e w' => e = .returned (.string (encS l)) ∧ Below w.heap.size w w' := by
  obtain ⟨i0, hi, hz0, hz1, hz2⟩ := info_parts infoByte
  have Hr := Lib.hid hr; clear hr
  go_enter Tryd.func70, Tryd.ntmps70
  go_wp2_with (at_make; refine wpList_make_own _ rfl _ _ 148 rfl w.heap.size 5 i0 (.int .u8 0) 1 Tryd.underlying148 hi hz0 hz1 _ _ _ l.length rfl rfl (by omega) ?b2 ?b3 (Nat.le_refl _) ?_)
  case b2 => rw [hz2]; omega
  case b3 => unfold maxLen; omega
  intro w0 hown0 hgrow0
  have hb0 : Below w.heap.size w w0 := (Below.refl _ _).grown hgrow0 (Nat.le_refl _) (fun k h => by cases h)
  go_wp2
  have hb8 := hb0.size
  go_loopw [3, 11] (fun v iv wr => ∃ k : Nat, iv = .int .i64 (k : Int) ∧ EncInv l a w k v wr) (fun _ iv _ => l.length - (intOf iv).toNat)
  case atStart => exact ⟨0, rfl, hown0, hb0, Nat.zero_le _⟩
  case round =>
    obtain ⟨k, rfl, hI⟩ := hrel
    have hbl := hI.bl; have hown := hI.own; have hle := hI.le; have hsz := hbl.size
    have hlen := enc_take_len l k hl
    clear hI
    by_cases hlt : k < l.length
    · obtain ⟨ba, oa, rfl, hca, hba⟩ := (Hr.out.below hbl) k hlt
      have hlti : (k : Int) < (l.length : Int) := by omega
      have hnext := enc_take l k hlt
      have P := fun w => point_any (l.getD k 0) w
      have S := fun w => stray_any (l.getD k 0) w
      have hp := ptB_iff (l.getD k 0)
      have hs := stB_iff (l.getD k 0)
      have e1 := fun h => oneI_pt (v := l.getD k 0) h
      have e2 := fun h => oneI_st (v := l.getD k 0) h
      have e3 := fun h => oneI_no (v := l.getD k 0) h
      generalize l.getD k 0 = x at *
      generalize encI (l.take k) = acc at *
      cases hpt : ptB x
      · rw [hpt] at P e3
        cases hst : stB x
        · rw [hst] at S e3
          have hn := hnext.trans (by rw [e3 rfl rfl, List.append_nil])
          have Hn := Lib.hid hn
          replace P := Lib.hid P; replace S := Lib.hid S
          clear hn hnext e1 e2 e3 hp hs hpt hst
          go_wp2_with (first
            | (go_at_call 91; refine (P.out _).mono ?_; rintro e w1 ⟨rfl, rfl⟩)
            | (go_at_call 93; refine (S.out _).mono ?_; rintro e w1 ⟨rfl, rfl⟩))
          go_roundw
          case rel => exact ⟨k + 1, by go_num, by rw [Hn.out]; exact hown, hbl, by omega⟩
          case measure => simp [intOf]; omega
        · rw [hst] at S
          have hx := hs.1 hst
          have hn := hnext.trans (by rw [e2 hst])
          have Hn := Lib.hid hn
          replace P := Lib.hid P; replace S := Lib.hid S
          clear hn hnext e1 e2 e3 hp hs hpt hst
          go_wp2_with (first
            | (go_at_call 91; refine (P.out _).mono ?_; rintro e w1 ⟨rfl, rfl⟩)
            | (go_at_call 93; refine (S.out _).mono ?_; rintro e w1 ⟨rfl, rfl⟩)
            | (at_builtin; refine wpList_append_own _ rfl _ _ 148 rfl w.heap.size 5 i0 (.int .u8 0) 1 1 Tryd.underlying148 hi hz0 hz1 hz2 rfl (by decide) _ _ _ rfl (hown.alloc _) ⟨w1.heap.size, 0, none⟩ 1 1 [.int .u8 (x - 1114112)] rfl rfl ?c1 ?c2 ?c3 ?c4 ?c5 ?_))
          case c1 =>
            intro j u hj
            match j, hj with
            | 0, hj => simp at hj; subst hj; exact cell_new w1 _ _
          case c2 => intro u hu; simp at hu; subst hu; rfl
          case c3 => unfold maxLen; omega
          case c4 => omega
          case c5 => have := (below_alloc w1 (Obj.cells #[Value.int IntKind.u8 (x - 1114112)] 5)).size; omega
          intro v' w3 hown3 hgrow3 _
          have hbl3 : Below w.heap.size w w3 := (hbl.alloc hsz _).grown hgrow3 (by have := (below_alloc w1 (Obj.cells #[Value.int IntKind.u8 (x - 1114112)] 5)).size; omega) (fun k hk => (hown.lt k hk).1)
          have hown3' : w3.ownsRow w.heap.size 5 1 v' (encI (l.take (k + 1))).length (u8s (encI (l.take (k + 1)))) := by
            rw [Hn.out]; simpa [u8s] using hown3
          clear hown3 hgrow3 hown
          go_wp2
          go_roundw
          case rel => exact ⟨k + 1, by go_num, hown3', hbl3, by omega⟩
          case measure => simp [intOf]; omega
      · rw [hpt] at P
        have hx := hp.1 hpt
        have hn := hnext.trans (by rw [e1 hpt])
        have Hn := Lib.hid hn
        have hx2 : 0 ≤ x ∧ x ≤ 1114111 := by omega
        replace P := Lib.hid P
        clear hn hnext e1 e2 e3 hp hs hpt hx S
        go_wp2_with (first
          | (go_at_call 91; refine (P.out _).mono ?_; rintro e w1 ⟨rfl, rfl⟩)
          | (go_at_call 92; refine (Tryd.utf8_AppendRune_plain w.heap.size _ _ _ x (by omega) (by omega) _ hown (by omega) (by omega)).mono ?_; rintro e w2 ⟨v2, rfl, hown2, o, hg2⟩)
          | fail)
        have hbl3 : Below w.heap.size w w2 := (hbl.alloc hsz o).grown hg2 (by have := (below_alloc w1 o).size; omega) (fun k hk => (hown.lt k hk).1)
        have hown3' : w2.ownsRow w.heap.size 5 1 v2 (encI (l.take (k + 1))).length (u8s (encI (l.take (k + 1)))) := by
          rw [Hn.out]; simpa [u8s, Lib.runeCells] using hown2
        clear hown2 hg2 hown
        go_wp2
        go_roundw
        case rel => exact ⟨k + 1, by go_num, hown3', hbl3, by omega⟩
        case measure => simp [intOf]; omega
    · obtain rfl : k = l.length := by omega
      rw [List.take_length] at hown
      have hcv := conv_own hown
      clear hown
      go_wp2
      go_ret
      exact ⟨rfl, hbl⟩
end Go.Proofs.YtdifkjmpdmlobaaDoor
