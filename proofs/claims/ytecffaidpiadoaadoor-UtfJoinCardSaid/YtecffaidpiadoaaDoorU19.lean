import Derived.Test.YtecffaidpiadoaaDoorU16
import Derived.Laws.AppendOwnNone
namespace Go.Proofs.YtecffaidpiadoaaDoor
open Go.RowKit
theorem wpList_append_row {P : Program} {w : World} {ops : Array Oper} {rest : List Oper} {o : Oper} {a : Act} {Q : Exit → Act → World → Prop} (hgd : Region.wanted o (yielded ops a.tmps) = true) (s x : Operand) (t : TypeId)
    (ho : o.op = .call { callee := .builtin .append, args := #[s, x], argTypes := #[t, t] })
    (base base2 : Nat) (e : TypeId) (i : TypeInfo) (z : Value) (size bytes : Nat) (ht : P.underlying t = some (.slice e)) (hi : P.info? e = some i) (hz : i.zero = some z)
    (hsize : i.size = size) (hby : i.bytes = bytes) (hzs : z.cells.size = size) (hsz : 0 < size)
    (v : Value) (n : Nat) (xs : List Value) (hs : a.eval s = v) (hown : w.ownsRow base e size v n xs)
    (v2 : Value) (m : Nat) (news : List Value) (hx : a.eval x = v2) (hown2 : w.ownsRow base2 e size v2 m news) (h1 : ∀ u ∈ news, u.oneCell' = true)
    (h63 : n + m ≤ maxLen) (hbytes : (n + m) * bytes ≤ 140737488355328) (hbase : base ≤ w.heap.size)
    (h : ∀ v' w', w'.ownsRow base e size v' (n + m) (xs ++ news) → w.grownBy w' v.ownBlock → wpList P ops Q rest (a.put o.dst v') w') : wpList P ops Q (o :: rest) a w := by
  refine wpList_step fun K hK => ?_
  rw [if_pos hgd]
  rcases hown2.2 with ⟨rfl, rfl⟩ | ⟨g, cap, cur, rfl, _⟩
  · have hn : news = [] := List.eq_nil_of_length_eq_zero (by simpa using hown2.1)
    subst hn
    have hrun := run_append_owned_none (P := P) (w := w) base t o.type e i size ht hi v n xs hown
    have h' := h v w (by simpa using hown) ⟨rfl, rfl, rfl, Nat.le_refl _, fun _ _ _ => rfl⟩
    unfold Oper.wp
    simp [execOp, ho, resolve, invoke, builtin, hs, hx, hrun, Result.andThen]
    exact hK _ _ h'
  · exact wp_append_own w s x t ho base e i z size bytes ht hi hz hsize hby hzs hsz v n xs hs hown ⟨g, 0, none⟩ m cap news hx hown2.1 (hown2.cells rfl) h1 h63 hbytes hbase (fun v' w' a1 a2 _ => hK _ _ (h v' w' a1 a2))
theorem ints_one (l : List Int) : ∀ u ∈ l.map (Value.int .i64), u.oneCell' = true := by
  intro u hu; obtain ⟨x, _, rfl⟩ := List.mem_map.1 hu; rfl
set_option maxRecDepth 100000 in
set_option maxHeartbeats 2000000 in
theorem join_any (s t : ByteArray) (w : World) (hT : UT w) :
    Calls Tryd.prog 6 #[.string s, .string t] w fun e w' => e = .returned (.bool true) ∧ Below w.heap.size w w' := by
  have A := Lib.hid (fun w hT => awake_utf w hT)
  have HT := Lib.hid hT; clear hT
  obtain ⟨i0, hi0, hz0, hz1, hz2⟩ := info_parts infoInt
  by_cases h1 : 300 < s.size
  · have hi : (300 : Int) < (s.size : Int) := by omega
    go_enter Tryd.func6, Tryd.ntmps6
    go_wp2_with (first
      | (go_at_call 11; refine (A.out _ HT.out).mono ?_; rintro e w1 ⟨rfl, hb1⟩))
    go_ret
    exact ⟨rfl, hb1⟩
  · have hi : (s.size : Int) ≤ 300 := by omega
    by_cases h2 : 300 < t.size
    · have hi2 : (300 : Int) < (t.size : Int) := by omega
      go_enter Tryd.func6, Tryd.ntmps6
      go_wp2_with (first
        | (go_at_call 11; refine (A.out _ HT.out).mono ?_; rintro e w1 ⟨rfl, hb1⟩))
      go_ret
      exact ⟨rfl, hb1⟩
    · have hi2 : (t.size : Int) ≤ 300 := by omega
      have D := Lib.hid (fun w hT => decode_any s w hT (by omega))
      go_enter Tryd.func6, Tryd.ntmps6
      go_wp2_with (first
        | (go_at_call 12; refine (D.out _ HT.out).mono ?_; rintro e w1 ⟨v, rfl, hown, hb1⟩; obtain ⟨a, cap, rfl, hr⟩ := row_own hown; have T1 := Lib.hid (HT.out.below hb1)))
      have hlen := valsS_len s
      have hlent := valsS_len t
      have hjoin := vals_join s t
      have hst : (s ++ t).size = s.size + t.size := ByteArray.size_append
      have Dt := Lib.hid (fun w hT => decode_any t w hT (by omega))
      have Dj := fun w hT => decode_any (s ++ t) w hT (by omega)
      have Cs := Lib.hid (fun w => count_utf s w (by omega))
      have Ct := Lib.hid (fun w => count_utf t w (by omega))
      have Cj := fun w => count_utf (s ++ t) w (by omega)
      have hjoin2 : (∀ j, j < (valsS s).length → (valsS s).getD j 0 ≤ 1114111) → valsS (s ++ t) = valsS s ++ valsS t := by
        intro h
        refine hjoin (fun v hv => ?_)
        obtain ⟨j, hj, rfl⟩ := List.getElem_of_mem hv
        have := h j hj
        simpa [List.getD, List.getElem?_eq_getElem hj] using this
      clear hjoin D
      generalize valsS s = l at *
      generalize valsS t = l2 at *
      generalize valsS (s ++ t) = l3 at *
      have Hj := Lib.hid hjoin2; clear hjoin2
      replace Dj := Lib.hid Dj; replace Cj := Lib.hid Cj
      have Hr := Lib.hid hr; clear hr
      have Ho := Lib.hid hown; clear hown
      go_loopw [6] (fun iv wr => ∃ k : Nat, iv = .int .i64 (k : Int) ∧ k ≤ l.length ∧ wr = w1 ∧ Hid (∀ j, j < k → l.getD j 0 ≤ 1114111)) (fun iv _ => l.length - (intOf iv).toNat)
      case atStart => exact ⟨0, rfl, Nat.zero_le _, rfl, Lib.hid (fun j h => absurd h (Nat.not_lt_zero _))⟩
      case round =>
        obtain ⟨k, rfl, hk, rfl, hj⟩ := hrel
        by_cases hlt : k < l.length
        · obtain ⟨ba, oa, rfl, hca, hba⟩ := Hr.out k hlt
          have hlti : (k : Int) < (l.length : Int) := by omega
          by_cases hx : 1114111 < l.getD k 0
          · generalize l.getD k 0 = x at *
            clear hj
            go_wp2_with (first
              | (go_at_call 11; refine (A.out _ T1.out).mono ?_; rintro e w2 ⟨rfl, hb2⟩))
            go_ret
            exact ⟨rfl, seqB hb1 hb2⟩
          · have hj2 : Hid (∀ j, j < k + 1 → l.getD j 0 ≤ 1114111) := Lib.hid (fun j h => by
              rcases Nat.lt_succ_iff_lt_or_eq.1 h with h | rfl
              · exact hj.out j h
              · omega)
            have hx2 : l.getD k 0 ≤ 1114111 := by omega
            clear hj hx
            generalize l.getD k 0 = x at *
            go_wp2
            go_roundw
            case rel => exact ⟨k + 1, by go_num, by omega, by trivial, hj2⟩
            case measure => simp [intOf]; omega
        · obtain rfl : k = l.length := by omega
          have e3 := Hj.out hj.out
          clear hj Hj
          subst e3
          go_wp2_with (first
              | (go_at_call 11; refine (A.out _ T1.out).mono ?_; rintro e w2 ⟨rfl, hb2⟩; have T2 := Lib.hid (T1.out.below hb2); have Ho2 := Lib.hid (own_below Ho.out hb2))
              | (go_at_call 12; refine (Dj.out _ T2.out).mono ?_; rintro e w3 ⟨v3, rfl, hown3, hb3⟩; obtain ⟨a3, c3, rfl, hr3⟩ := row_own hown3; clear hown3; have T3 := Lib.hid (T2.out.below hb3); have Ho3 := Lib.hid (own_below Ho2.out hb3); have hle3 := hb3.size)
              | (at_builtin; refine wpList_append_row rfl _ _ 23 rfl w3.heap.size w.heap.size 3 i0 (.int .i64 0) 1 8 Tryd.underlying23 hi0 hz0 hz1 hz2 rfl (by decide) _ 0 [] rfl (World.ownsRow_made w3 #[] 0 (Nat.le_refl _) (by unfold maxLen; omega) rfl) _ l.length (l.map (Value.int .i64)) rfl (Ho3.out.alloc _) (ints_one l) ?c1 ?c2 ?c3 ?_))
          case c1 => unfold maxLen; omega
          case c2 => omega
          case c3 => exact (below_alloc w3 _).size
          intro v4 w4 hown4 hgrow4
          have hs4 := (below_alloc w3 (Obj.cells #[] 3)).size
          have hb4 : Below w3.heap.size w3 w4 := (below_alloc w3 _).grown hgrow4 hs4 (fun k hk => by simp [Value.ownBlock] at hk; omega)
          have T4 := Lib.hid (T3.out.below hb4)
          have Ho4 : Hid (w4.ownsRow w3.heap.size 3 1 v4 l.length (l.map (Value.int .i64))) := Lib.hid (by simpa using hown4)
          clear hown4 hgrow4 Ho Ho2 Ho3
          have hle4 := hb4.size
          go_wp2_with (first
              | (go_at_call 12; refine (Dt.out _ T4.out).mono ?_; rintro e w5 ⟨v5, rfl, hown5, hb5⟩; have Ho5 := Lib.hid (own_below Ho4.out hb5); have hle5 := hb5.size)
              | (at_builtin; refine wpList_append_row rfl _ _ 23 rfl w3.heap.size w4.heap.size 3 i0 (.int .i64 0) 1 8 Tryd.underlying23 hi0 hz0 hz1 hz2 rfl (by decide) _ l.length (l.map (Value.int .i64)) rfl Ho5.out _ l2.length (l2.map (Value.int .i64)) rfl hown5 (ints_one l2) ?d1 ?d2 ?d3 ?_))
          case d1 => unfold maxLen; omega
          case d2 => omega
          case d3 => omega
          intro v6 w6 hown6 hgrow6
          have hb35 : Below w3.heap.size w3 w5 := seqB hb4 hb5
          have hb6 : Below w3.heap.size w3 w6 := hb35.grown hgrow6 (by omega) (fun k hk => (Ho5.out.lt k hk).1)
          have hq6 : w6.ownsRow w3.heap.size 3 1 v6 (l ++ l2).length ((l ++ l2).map (Value.int .i64)) := by simpa using hown6
          obtain ⟨a6, c6, rfl, hr6⟩ := row_own hq6
          have Hr6 := Lib.hid hr6
          have Hr3 := Lib.hid (hr3.below hb6)
          have I := fun pa pb ca cb w ha hb => ints_ref (l ++ l2) (l ++ l2) pa pb ca cb w ha hb (by simp; omega) (by simp; omega)
          simp only [decide_true] at I
          have hcnt : ((l ++ l2).length : Int) = (l.length : Int) + (l2.length : Int) := by simp
          replace Cj := Cj.out
          simp only [List.length_append] at I Cj hcnt ⊢
          generalize l.length + l2.length = n3 at *
          replace Cj := Lib.hid Cj
          have hec : ((n3 : Int) == (l.length : Int) + (l2.length : Int)) = true := by rw [hcnt]; simp
          replace I := Lib.hid I
          clear hown6 hgrow6 hr6 hr3 hq6 hown5 Ho5 Ho4
          have hbA := seqB (seqB (seqB hb1 hb2) hb3) hb6
          go_wp2_with (first
              | (go_at_call 13; (with_reducible refine (I.out _ _ _ _ _ Hr3.out Hr6.out).mono ?_); rintro e w7 ⟨rfl, kk, rfl⟩; have hb7 : Below w6.heap.size w6 (w6.drewN kk) := drewN_below (Below.refl _ _) kk)
              | (go_at_call 16; (with_reducible refine (Cj.out _).mono ?_); rintro e w8 ⟨rfl, hb8⟩)
              | (go_at_call 16; (with_reducible refine (Cs.out _).mono ?_); rintro e w9 ⟨rfl, hb9⟩)
              | (go_at_call 16; (with_reducible refine (Ct.out _).mono ?_); rintro e w10 ⟨rfl, hb10⟩))
          go_ret
          exact ⟨rfl, seqB (seqB (seqB (seqB hbA hb7) hb8) hb9) hb10⟩
end Go.Proofs.YtecffaidpiadoaaDoor
