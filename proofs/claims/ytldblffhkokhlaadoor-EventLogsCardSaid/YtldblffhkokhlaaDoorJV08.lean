/-
  Joined: Un2 Es7 Es8 Spb Es9 Ev1 Es10 Ev2 Ev3 Ev4.
-/
import Derived.Test.YtldblffhkokhlaaDoorJV03
import Derived.Test.YtldblffhkokhlaaDoorJV04
import Derived.Test.YtldblffhkokhlaaDoorJV05
import Derived.Test.YtldblffhkokhlaaDoorJV07
import Derived.Laws.Rows
import Derived.Deep.RegionHeld3
set_option linter.unusedVariables false
set_option linter.unusedSimpArgs false
set_option maxRecDepth 100000
set_option linter.unusedVariables false
set_option linter.unusedSimpArgs false
namespace Go.Proofs.YtldblffhkokhlaaDoor
open Go.RowKit
def ugF : Nat → List UInt8 → Nat → List Int
  | 0, _, _ => []
  | f + 1, l, k => if l = [] then [] else match k with
    | 0 => []
    | k + 1 => (nxG l).1 :: ugF f (l.drop (nxG l).2) k
theorem ug_fuel : ∀ (f g : Nat) (l : List UInt8) (k : Nat), l.length ≤ f → l.length ≤ g → ugF f l k = ugF g l k := by
  intro f
  induction f with
  | zero =>
    intro g l k hf hg
    obtain rfl := List.length_eq_zero_iff.1 (Nat.le_zero.1 hf)
    cases g with
    | zero => rfl
    | succ g => unfold ugF; rfl
  | succ f ih =>
    intro g l k hf hg
    cases g with
    | zero =>
      obtain rfl := List.length_eq_zero_iff.1 (Nat.le_zero.1 hg)
      unfold ugF; rfl
    | succ g =>
      unfold ugF
      by_cases hl : l = []
      · rw [if_pos hl, if_pos hl]
      · rw [if_neg hl, if_neg hl]
        cases k with
        | zero => rfl
        | succ k =>
          have h1 := nxG_go hl
          show _ :: ugF f _ k = _ :: ugF g _ k
          rw [ih g _ k (by rw [List.length_drop]; omega) (by rw [List.length_drop]; omega)]
/-- The values of a line, at most so many. -/
def ugS (l : List UInt8) (k : Nat) : List Int := ugF l.length l k
theorem ugS_nil (k : Nat) : ugS [] k = [] := rfl
theorem ugS_zero (l : List UInt8) : ugS l 0 = [] := by
  unfold ugS
  cases h : l.length with
  | zero => rfl
  | succ n => unfold ugF; split <;> rfl
theorem ugS_step {l : List UInt8} (h : l ≠ []) (k : Nat) : ugS l (k + 1) = (nxG l).1 :: ugS (l.drop (nxG l).2) k := by
  unfold ugS
  have hp := List.length_pos_iff.2 h
  obtain ⟨n, hn⟩ : ∃ n, l.length = n + 1 := ⟨l.length - 1, by omega⟩
  rw [hn]
  conv => lhs; unfold ugF
  rw [if_neg h]
  show _ :: ugF n _ k = _
  have h1 := nxG_go h
  rw [ug_fuel n _ _ k (by rw [List.length_drop]; omega) (Nat.le_refl _)]
theorem ugS_len (l : List UInt8) (k : Nat) : (ugS l k).length ≤ k := by
  have key : ∀ f l k, (ugF f l k).length ≤ k := by
    intro f
    induction f with
    | zero => intro l k; exact Nat.zero_le _
    | succ f ih =>
      intro l k
      unfold ugF
      split
      · exact Nat.zero_le _
      · cases k with
        | zero => exact Nat.le_refl _
        | succ k => exact Nat.succ_le_succ (ih _ k)
  exact key _ l k
theorem ugS_lnL {l : List (Int × Int)} (h : ∀ p ∈ l, rightB p.1 = true) : ∀ k, l.length ≤ k → ugS (lnL l) k = l.map (·.1) := by
  induction l with
  | nil => intro k _; rfl
  | cons p l ih =>
    intro k hk
    have hr := h p (List.mem_cons_self ..)
    have hlen := leF_len hr
    have hne : lnL (p :: l) ≠ [] := fun e => by
      have := congrArg List.length e
      rw [lnL_cons, List.length_append, List.length_nil] at this
      omega
    have hhd : ((lnL (p :: l)).headD 0).toNat < 128 := by
      have hm : (lnL (p :: l)).headD 0 ∈ leF p.1 := by
        rw [lnL_cons]
        cases hx : leF p.1 with
        | nil => rw [hx] at hlen; simp at hlen
        | cons a b => simp
      have := leF_ascii hr _ hm
      omega
    obtain ⟨k', rfl⟩ : ∃ k', k = k' + 1 := ⟨k - 1, by rw [List.length_cons] at hk; omega⟩
    rw [ugS_step hne, nxG_F hne hhd, lnL_cons, nx_le hr, List.drop_left, ih (fun q hq => h q (List.mem_cons_of_mem _ hq)) k' (by rw [List.length_cons] at hk; omega)]
    rfl
structure UgInv (l : List UInt8) (k p q r R : Nat) (w : World) (i rd : Nat) (acc : List Int) (wr : World) : Prop where
  it : wr.heap[R]? = some (.stringIter (mkL l) i)
  st : LnSt p q r (k : Int) (hsL acc) (R + 1) wr
  bel : Below w.heap.size w wr
  ac : acc ++ ugS (l.drop rd) (k - acc.length) = ugS l k
  le : i ≤ rd
  bt : ∀ j, i ≤ j → j < rd → (l.getD j 0).toNat < 128
  rl : rd ≤ l.length
  al : acc.length ≤ k
theorem ug_start {l : List UInt8} {k p q r : Nat} {w w1 : World} (hp : w.heap.size ≤ p) (hst : ∀ B, w1.heap.size ≤ B → ∀ w2, Below w1.heap.size w1 w2 → B ≤ w2.heap.size → LnSt p q r (k : Int) [] B w2) (hb : Below w.heap.size w w1) : UgInv l k p q r w1.heap.size w 0 0 [] (w1.iter (mkL l) 0) := by
  have B1 : Below w1.heap.size w1 (w1.iter (mkL l) 0) := below_alloc _ _
  have hs : (w1.iter (mkL l) 0).heap.size = w1.heap.size + 1 := by simp [World.iter]
  exact ⟨World.iter_heap _ _ _, hst _ (Nat.le_succ _) _ B1 (Nat.le_of_eq hs.symm), seqB hb B1, by simp, Nat.le_refl _, fun j h1 h2 => absurd h2 (Nat.not_lt_zero _), Nat.zero_le _, Nat.zero_le _⟩
theorem UgInv.next {l : List UInt8} {k p q r R : Nat} {w : World} {i rd : Nat} {acc : List Int} {wr : World} (h : UgInv l k p q r R w i rd acc wr) (d : Nat) (hR : w.heap.size ≤ R) :
    (wr.iterAt R (mkL l) (i + d)).heap[R]? = some (.stringIter (mkL l) (i + d)) ∧ LnSt p q r (k : Int) (hsL acc) (R + 1) (wr.iterAt R (mkL l) (i + d)) ∧ Below w.heap.size w (wr.iterAt R (mkL l) (i + d)) :=
  ⟨Lib.iterAt_heap _ _ _ _ _ h.it, lnst_iter h.st h.it _, Lib.below_iterAt h.bel hR _ _⟩
set_option maxRecDepth 100000 in
set_option maxHeartbeats 4000000 in
theorem unline_gen (l : List UInt8) (k : Nat) (w : World) (hT : UT w) (hl : l.length ≤ 100000) (hk : k ≤ 100000) :
    Calls Tryd.prog 54 #[.string (mkL l), .int .i64 (k : Int)] w fun e w' => ∃ v, e = .returned v ∧ OwS w' w.heap.size v (hsL (ugS l k)) ∧ Below w.heap.size w w' := by
  have HT := Lib.hid hT
  have hsz : (mkL l).size = l.length := mkL_size l
  have B0 := below_alloc w (.cells #[.slice none 0 0] 22)
  have p0 := heap_alloc_new w (.cells #[.slice none 0 0] 22)
  obtain ⟨W0, hW0⟩ : ∃ W0, w.alloc (.cells #[.slice none 0 0] 22) = W0 := ⟨_, rfl⟩
  rw [hW0] at B0 p0
  have AD := Lib.hid (adder_any w.heap.size (k : Int) W0 p0)
  have HB0 := Lib.hid B0
  have hmf : ∀ (fn : Fn) (first cap : Array Value) (w : World), (Instr.makeFunc fn first cap).run Tryd.prog w = .ok (.func fn first cap) w := fun _ _ _ _ => rfl
  clear hT p0 B0
  go_enter Tryd.func54, Tryd.ntmps54
  go_upto_region 2 with fail
  go_upto_region 3 with (go_at_call 83; refine AD.out.mono ?_; rintro e w1 ⟨q, r, rfl, hst, hb1⟩)
  have S0 := Lib.hid (ug_start (l := l) (Nat.le_refl w.heap.size) hst (seqB HB0.out hb1))
  have hRw : w.heap.size ≤ w1.heap.size := (seqB HB0.out hb1).size
  obtain ⟨p, hp⟩ : ∃ p, w.heap.size = p := ⟨_, rfl⟩
  obtain ⟨R, hR⟩ : ∃ R, w1.heap.size = R := ⟨_, rfl⟩
  rw [hR] at S0 hRw
  clear hst hb1 AD HB0
  have hpw : w.heap.size ≤ p := Nat.le_of_eq hp
  rw [hp] at S0 ⊢
  have HPW := Lib.hid hpw; have HRW := Lib.hid hRw
  clear hp hW0
  go_wp2
  go_loopw [7] (fun rv wr => ∃ i rd acc, rv = .int .i64 ((rd : Nat) : Int) ∧ Hid (UgInv l k p q r R w i rd acc wr)) (fun _ wr => l.length - wr.iterPos R)
  case atStart => exact ⟨0, 0, [], rfl, S0⟩
  case round =>
    obtain ⟨i, rd, acc, rfl, HI⟩ := hrel
    clear hR
    have hRl : R < wr.heap.size := blk_lt HI.out.it
    have hip : wr.iterPos R = i := by simp [World.iterPos, HI.out.it]
    by_cases hlt : i < l.length
    · have hnx : ∀ ty, (Instr.next (.pointer (some ⟨R, 0, none⟩)) true ty).run Tryd.prog wr = _ := fun ty => Lib.run_next_any_at wr R (mkL l) i ty HI.out.it (by rw [hsz]; exact hlt)
      by_cases hrd : i < rd
      · have hdec : (Utf8.decode (mkL l) i).2 = 1 := by rw [← vAt_size _ _ (by rw [mkL_size]; exact hlt), asc_pt hlt (HI.out.bt i (Nat.le_refl _) hrd)]
        rw [hdec] at hnx
        obtain ⟨it1, st1, bel1⟩ := HI.out.next 1 HRW.out
        have hrd1 : (i : Int) < (rd : Int) := by omega
        have HN : Hid (UgInv l k p q r R w (i + 1) rd acc (wr.iterAt R (mkL l) (i + 1))) := Lib.hid ⟨it1, st1, bel1, HI.out.ac, by omega, fun j h1 h2 => HI.out.bt j (by omega) h2, HI.out.rl, HI.out.al⟩
        have hip1 : (wr.iterAt R (mkL l) (i + 1)).iterPos R = i + 1 := by simp [World.iterPos, it1]
        clear HI it1 st1 bel1 S0
        generalize wr.iterAt R (mkL l) (i + 1) = W1 at *
        go_wp2
        go_roundw
        case rel => exact ⟨i + 1, rd, acc, rfl, HN⟩
        case measure => omega
      · obtain rfl : rd = i := by have := HI.out.le; omega
        have hlen0 : (l.drop rd).length = l.length - rd := List.length_drop
        have hne0 : l.drop rd ≠ [] := fun e => by rw [e] at hlen0; simp at hlen0; omega
        have hgo := nxG_go hne0
        have hd0 : (Utf8.decode (mkL (l.drop rd)) 0).2 = (Utf8.decode (mkL l) rd).2 := by
          rw [← vAt_size _ _ (by rw [mkL_size]; omega), ← vAt_size _ _ (by rw [mkL_size]; omega)]
          have e := vAt_tail (mkL l) rd 0 (by rw [mkL_size]; omega)
          rw [mkL_ext, mkL_size, List.take_of_length_le (by omega)] at e
          rw [e]; rfl
        rw [hd0, hlen0] at hgo
        obtain ⟨it1, st1, bel1⟩ := HI.out.next (Utf8.decode (mkL l) rd).2 HRW.out
        obtain ⟨d, hd⟩ : ∃ d, (Utf8.decode (mkL l) rd).2 = d := ⟨_, rfl⟩
        rw [hd] at hgo hnx it1 st1 bel1
        obtain ⟨hg1, hg2, hg3, hg4⟩ := hgo
        have HG4 : Hid (∀ j, rd + d ≤ j → j < rd + (nxG (l.drop rd)).2 → (l.getD j 0).toNat < 128) := Lib.hid fun j h1 h2 => by
          have := hg4 (j - rd) (by omega) (by omega)
          rw [List.getD, List.getElem?_drop, show rd + (j - rd) = j by omega] at this
          exact this
        have HGD := Lib.hid (And.intro hg1 (And.intro hg2 hg3))
        clear hg4 hd0 hd hne0 hlen0 hg1 hg2 hg3
        have hRp : R ≠ p := fun e => by
          obtain ⟨v, h1, _⟩ := st1.v
          rw [← e, it1] at h1; cases h1
        have hlen : (l.drop rd).length = l.length - rd := List.length_drop
        have hne : l.drop rd ≠ [] := fun e => by rw [e] at hlen; simp at hlen; omega
        have NX := next_gen (l.drop rd) (wr.iterAt R (mkL l) (rd + d)) (HT.out.below bel1) (by omega)
        have hext : (mkL l).extract rd (mkL l).size = mkL (l.drop rd) := by
          rw [mkL_ext, mkL_size, List.take_of_length_le (by omega)]
        rw [← hext] at NX
        have hst := ugS_step hne (k - acc.length - 1)
        rw [List.drop_drop] at hst
        have hac := HI.out.ac; have hal := HI.out.al
        generalize hnx2 : nxG (l.drop rd) = vn at *
        obtain ⟨v, n⟩ := vn
        dsimp only at NX hst HG4 HGD
        have HIT := Lib.hid it1; have HST := Lib.hid st1; have HBL := Lib.hid bel1
        by_cases hful : acc.length < k
        · have AY := Lib.hid (fun (w : World) h => adder1_yes v p q r (k : Int) (hsL acc) (R + 1) w h (by rw [hsL_len]; omega) (by rw [hsL_len]; omega))
          have hac2 : Hid ((acc ++ [v]) ++ ugS (l.drop (rd + n)) (k - (acc ++ [v]).length) = ugS l k) := Lib.hid (by
            rw [← hac, show k - acc.length = (k - acc.length - 1) + 1 by omega, hst, List.append_assoc, List.length_append, List.length_singleton, show k - (acc.length + 1) = k - acc.length - 1 by omega]; rfl)
          have hal2 : (acc ++ [v]).length ≤ k := by simp; omega
          have hsn := hsL_app acc v
          replace NX := Lib.hid NX
          clear HI it1 st1 bel1 S0 hac hst hne hlen hal hnx2
          generalize wr.iterAt R (mkL l) (rd + d) = W1 at *
          generalize hac3 : acc ++ [v] = acc2 at *
          rw [← hsn] at AY
          clear hsn hac3 hful
          have Hal := Lib.hid hal2; clear hal2
          go_wp2_with (first
            | (go_at_call 84; refine NX.out.mono ?_; rintro e w2 ⟨rfl, hb2⟩; have st2 := Lib.hid (HST.out.below hb2); have it2 := Lib.hid (blk_below HIT.out hb2); have bl2 := Lib.hid (seqB HBL.out hb2); clear hb2 NX)
            | (go_at_call 114; refine (AY.out _ st2.out).mono ?_; rintro e w3 ⟨rfl, st3, k3⟩; have it3 := (k3.block R (Nat.lt_succ_self R) hRp).trans it2.out; have st4 := Lib.hid st3; have bl3 := Lib.hid (below_keepB bl2.out k3 (Nat.le_succ_of_le HRW.out) HPW.out); clear st3 k3))
          go_roundw
          case rel => exact ⟨rd + d, rd + n, acc2, (by have := HGD.out; exact retV (by show wrap64 _ = _; unfold wrap64; omega)), Lib.hid ⟨it3, st4.out, bl3.out, hac2.out, by have := HGD.out; omega, HG4.out, by have := HGD.out; omega, Hal.out⟩⟩
          case measure => simp only [World.iterPos, it3]; simp only [World.iterPos] at hip; have := HGD.out; omega
        · obtain hke : acc.length = k := by omega
          rw [hke, Nat.sub_self, ugS_zero, List.append_nil] at hac
          have AN := Lib.hid (fun (w : World) h => adder1_no v p q r (k : Int) (hsL acc) (R + 1) w h (by rw [hsL_len]; omega))
          replace NX := Lib.hid NX
          have hac2 := Lib.hid hac
          clear HI it1 st1 bel1 S0 hac hst hne hlen hal hnx2 hke hful
          generalize wr.iterAt R (mkL l) (rd + d) = W1 at *
          go_wp2_with (first
            | (go_at_call 84; refine NX.out.mono ?_; rintro e w2 ⟨rfl, hb2⟩; have st2 := Lib.hid (HST.out.below hb2); have bl2 := Lib.hid (seqB HBL.out hb2); clear hb2 NX)
            | (go_at_call 114; refine (AN.out _ st2.out).mono ?_; rintro e w3 ⟨rfl, hb3⟩; have st3 := Lib.hid (st2.out.below hb3); have bl3 := Lib.hid (seqB bl2.out hb3); obtain ⟨x, c0, ho⟩ := st3.out.cell; clear hb3))
          go_ret
          exact ⟨_, rfl, by rw [← hac2.out]; exact World.ownsRow.mono ho (Nat.le_succ_of_le HRW.out), bl3.out⟩
    · have hnx : ∀ ty, (Instr.next (.pointer (some ⟨R, 0, none⟩)) true ty).run Tryd.prog wr = _ := fun ty => Lib.run_next_end_at wr R (mkL l) i ty HI.out.it (by rw [hsz]; exact hlt)
      have hrl := HI.out.rl; have hle := HI.out.le
      have hac := HI.out.ac
      rw [List.drop_of_length_le (by omega), ugS_nil, List.append_nil] at hac
      have hac2 := Lib.hid hac
      obtain ⟨x, c0, ho⟩ := HI.out.st.cell
      have HO := Lib.hid ho
      have bl := Lib.hid HI.out.bel
      clear HI hac hrl hle S0 ho
      go_wp2
      go_ret
      exact ⟨_, rfl, by rw [← hac2.out]; exact World.ownsRow.mono HO.out (Nat.le_succ_of_le HRW.out), bl.out⟩
end Go.Proofs.YtldblffhkokhlaaDoor
set_option linter.unusedVariables false
set_option linter.unusedSimpArgs false
namespace Go.Proofs.YtldblffhkokhlaaDoor
open Go.RowKit
/-- The line's end. -/
def nlB : ByteArray := ⟨#[10]⟩
theorem split_nl (s : ByteArray) (w : World) (hs : s.size < 4294967281) : Calls Tryd.prog 50 #[.string s, .string ⟨#[10]⟩] w fun e w' => e = .returned (.slice (some ⟨w.heap.size, 0, none⟩) (Lib.countB s nlB + 1) (Lib.countB s nlB + 1)) ∧ w.alloc (.cells ((Lib.splitB nlB 0 (Lib.countB s nlB) s).map Value.string).toArray 9) = w' := by
  have hle := Lib.countB_le nlB (by decide) s.size s (Nat.le_refl _)
  have hlen := Lib.splitB_all nlB (by decide) 0 _ s rfl
  have c := Any.strings_genSplit_core Tryd.lays221 (by kernel_rfl) s nlB 0 (-1) (Lib.countB s nlB + 1) w hs (by decide) (Nat.zero_le _)
    (fun x c hx => by
      have h := Tryd.strings_Index_one x 10 (w.alloc (.cells c 9))
      refine Calls.mono h ?_
      rintro e w' ⟨rfl, rfl⟩
      refine ⟨?_, rfl⟩
      show _ = Ending.returned (Value.int .i64 (Lib.index x.data.toList [10]))
      rw [Lib.index_one])
    (by
      have h := Tryd.strings_Count_one s 10 w
      refine Calls.mono h ?_
      rintro e w' ⟨rfl, rfl⟩
      refine ⟨?_, rfl⟩
      show _ = Ending.returned (Value.int .i64 ((Lib.count s.data.toList [10] : Nat) : Int))
      rw [Lib.count_one]
      rfl)
    (by decide) (by decide) (by rw [if_pos (by decide)]; omega)
  rw [Nat.add_sub_cancel, hlen] at c
  have e2 : Lib.cellsOf (Lib.splitB nlB 0 (Lib.countB s nlB) s) (Lib.countB s nlB + 1) = ((Lib.splitB nlB 0 (Lib.countB s nlB) s).map Value.string).toArray := by rw [← hlen]; exact Lib.cellsOf_full _
  rw [e2] at c
  have c' : Calls Tryd.prog 81 #[.string s, .string ⟨#[10]⟩, .int .i64 0, .int .i64 (-1)] w _ := c
  go_enter Tryd.func50, Tryd.ntmps50
  go_wp2_with (go_at_call 81; refine c'.mono ?_; rintro e w' ⟨rfl, hw⟩)
  go_ret
  exact ⟨rfl, rfl⟩
/-- A text is pieces. -/
def PiOf (l : List UInt8) (ps : List (List UInt8)) : Prop := Lib.splitB nlB 0 (Lib.countB (mkL l) nlB) (mkL l) = ps.map mkL
theorem PiOf.len {l : List UInt8} {ps : List (List UInt8)} (h : PiOf l ps) : ps.length = Lib.countB (mkL l) nlB + 1 := by
  have := Lib.splitB_all nlB (by decide) 0 _ (mkL l) rfl
  rw [show Lib.splitB nlB 0 (Lib.countB (mkL l) nlB) (mkL l) = ps.map mkL from h, List.length_map] at this
  exact this
theorem PiOf.read {l : List UInt8} {ps : List (List UInt8)} (h : PiOf l ps) (w : World) (hs : l.length < 4294967281) : Calls Tryd.prog 50 #[.string (mkL l), .string ⟨#[10]⟩] w fun e w' => e = .returned (.slice (some ⟨w.heap.size, 0, none⟩) ps.length ps.length) ∧ (∀ i, i < ps.length → w'.cell? ⟨w.heap.size, i, none⟩ = some (.string (mkL (ps.getD i [])))) ∧ w.heap.size < w'.heap.size ∧ Below w.heap.size w w' := by
  have := split_nl (mkL l) w (by rw [mkL_size]; exact hs)
  rw [show Lib.splitB nlB 0 (Lib.countB (mkL l) nlB) (mkL l) = ps.map mkL from h, ← h.len] at this
  refine this.mono ?_
  rintro e w' ⟨rfl, rfl⟩
  refine ⟨rfl, fun i hi => ?_, by simp, below_alloc _ _⟩
  rw [cell_of_row _ _ _ _ _ _ (heap_alloc_new _ _)]
  rw [List.getElem?_toArray, List.getElem?_map, List.getElem?_map, List.getD, List.getElem?_eq_getElem hi]
  rfl
/-- The entries of pieces. -/
def rdE (ps : List (List UInt8)) (k : Nat) : List (List (Int × Int)) := (ps.map fun p => hsL (unS p k)).filter fun l => !l.isEmpty
theorem rdE_len (ps : List (List UInt8)) (k : Nat) : (rdE ps k).length ≤ ps.length := by
  unfold rdE
  refine Nat.le_trans (List.length_filter_le _ _) ?_
  rw [List.length_map]; exact Nat.le_refl _
theorem rdE_take (ps : List (List UInt8)) (k i : Nat) (h : i < ps.length) : rdE (ps.take (i + 1)) k = rdE (ps.take i) k ++ (if hsL (unS (ps.getD i []) k) = [] then [] else [hsL (unS (ps.getD i []) k)]) := by
  unfold rdE
  rw [List.take_succ_eq_append_getElem h, List.map_append, List.filter_append, List.getD, List.getElem?_eq_getElem h]
  congr 1
  simp only [List.map_cons, List.map_nil, Option.getD_some]
  cases hx : hsL (unS ps[i] k) with
  | nil => simp
  | cons a b => simp
/-- Entries under way: a row of slices, each of the call's own. -/
structure RdSt (B : Nat) (v : Value) (E : List (List (Int × Int))) (w : World) : Prop where
  ex : ∃ vs : List Value, w.ownsRow B 22 1 v E.length vs ∧ ∀ i, i < E.length → ∃ x, vs[i]? = some x ∧ OwS w B x (E.getD i [])
  le : B ≤ w.heap.size
theorem RdSt.below {B : Nat} {v : Value} {E : List (List (Int × Int))} {w w' : World} (h : RdSt B v E w) (hb : Below w.heap.size w w') : RdSt B v E w' := by
  obtain ⟨vs, h1, h2⟩ := h.ex
  exact ⟨⟨vs, own_below h1 hb, fun i hi => by obtain ⟨x, e, hx⟩ := h2 i hi; exact ⟨x, e, own_below hx hb⟩⟩, Nat.le_trans h.le hb.size⟩
theorem infoSS : (Tryd.prog.info? 22).map (fun i => (i.zero, i.size, i.bytes)) = some (some (.slice none 0 0), 1, 24) := by kernel_rfl
theorem RdSt.sgs {B : Nat} {v : Value} {E : List (List (Int × Int))} {w : World} (h : RdSt B v E w) : ∃ a c, v = .slice a E.length c ∧ E.length ≤ c ∧ SgsIn w a E := by
  obtain ⟨vs, h1, h2⟩ := h.ex
  rcases h1.2 with ⟨rfl, h0⟩ | ⟨g, cap, cur, rfl, hB, hg, hle, _⟩
  · exact ⟨none, 0, by rw [h0], by omega, fun j hj => by omega⟩
  · refine ⟨_, cap, rfl, hle, fun i hi => ?_⟩
    obtain ⟨x, e, hx⟩ := h2 i hi
    obtain ⟨ai, ci, rfl, hs⟩ := hx.sl
    exact ⟨g, 0, ai, ci, rfl, blk_lt hg, by rw [Nat.zero_add, h1.cellAt i (by omega)]; exact e, hs.s⟩
/-- The last entries. -/
theorem SgsIn.cut {w : World} {a : Option Addr} {E : List (List (Int × Int))} {c f : Nat} (h : SgsIn w a E) (hc : E.length ≤ c) : SgsIn w (if c = f then a else a.map (·.add (f * 1))) (E.drop f) := by
  intro i hi
  rw [List.length_drop] at hi
  obtain ⟨b, off, ai, ci, e, hlt, h1, h2⟩ := h (f + i) (by omega)
  have hg : (E.drop f).getD i [] = E.getD (f + i) [] := by rw [List.getD, List.getElem?_drop, List.getD]
  rw [if_neg (by omega), e, hg]
  refine ⟨b, off + f, ai, ci, ?_, hlt, ?_, h2⟩
  · have hadd : (⟨b, off, none⟩ : Addr).add (f * 1) = ⟨b, off + f, none⟩ := by rw [Nat.mul_one]; unfold Addr.add; split <;> simp_all
    simp only [Option.map_some, hadd]
  · rw [show off + f + i = off + (f + i) by omega]; exact h1
theorem sizeSS (w : World) : (sizeOf 22).run Tryd.prog w = .ok 1 w := by kernel_rfl
/-- An entry comes behind. -/
theorem RdSt.next {B : Nat} {v x : Value} {E : List (List (Int × Int))} {L : List (Int × Int)} {w w1 : World} {v' : Value} {vs : List Value} (h2 : ∀ i, i < E.length → ∃ x, vs[i]? = some x ∧ OwS w B x (E.getD i [])) (hvl : vs.length = E.length) (hw : w.ownsRow B 22 1 v E.length vs) (hx : OwS w B x L)
    (ho : w1.ownsRow B 22 1 v' (E.length + 1) (vs ++ [x])) (hg : w.grownBy w1 v.ownBlock) (hle : B ≤ w.heap.size) : RdSt B v' (E ++ [L]) w1 := by
  have hk : ∀ y M, OwS w B y M → OwS w1 B y M := fun y M hy => World.ownsRow.kept hy hg (own_ne_own hy hw (by decide))
  refine ⟨⟨vs ++ [x], by rw [List.length_append]; exact ho, fun i hi => ?_⟩, Nat.le_trans hle hg.size⟩
  rw [List.length_append, List.length_singleton] at hi
  by_cases hlt : i < E.length
  · obtain ⟨y, e, hy⟩ := h2 i hlt
    refine ⟨y, by rw [List.getElem?_append_left (by omega)]; exact e, ?_⟩
    rw [show (E ++ [L]).getD i [] = E.getD i [] by rw [List.getD, List.getElem?_append_left hlt, List.getD]]
    exact hk _ _ hy
  · obtain rfl : i = E.length := by omega
    refine ⟨x, by rw [List.getElem?_append_right (by omega), hvl, Nat.sub_self]; rfl, ?_⟩
    rw [show (E ++ [L]).getD E.length [] = L by rw [List.getD, List.getElem?_append_right (Nat.le_refl _), Nat.sub_self]; rfl]
    exact hk _ _ hx
end Go.Proofs.YtldblffhkokhlaaDoor
set_option linter.unusedVariables false
set_option linter.unusedSimpArgs false
namespace Go.Proofs.YtldblffhkokhlaaDoor
open Go.RowKit
def eaA : List (Int × Int) := [(97, 0), (10, 0), (92, 0)]
def eaL : List UInt8 := [97, 92, 117, 48, 48, 48, 48, 48, 65, 92, 92, 92]
def eaP : List (List UInt8) := [[120], [], [121], [122]]
def eaS : List UInt8 := [120, 10, 10, 121, 10, 122]
def eaH : List (List (Int × Int)) := [[(121, 3)], [(122, 3)]]
theorem ea_line : mkL (lnL eaA) = ⟨#[97, 92, 117, 48, 48, 48, 48, 48, 65, 92, 92]⟩ := by decide +kernel
theorem ea_sg : sgC eaA = true := by decide +kernel
theorem ea_un : hsL (unS eaL 9) = [(97, 3), (10, 3), (92, 3), (92, 3)] := by decide +kernel
theorem ea_asc : Asc eaL := by unfold Asc; decide +kernel
theorem ea_pi : PiOf eaS eaP := by unfold PiOf; decide +kernel
theorem ea_pa : ∀ p ∈ eaP, Asc p ∧ p.length ≤ 100000 := by unfold Asc; decide +kernel
theorem ea_rd : (rdE eaP 1).drop ((rdE eaP 1).length - 2) = eaH := by decide +kernel
theorem ea_hok : ∀ l ∈ eaH, l.length ≤ 100 ∧ sgC l = true := by decide +kernel
theorem ea_tx : mkL (txL eaH) = ⟨#[121, 10, 122, 10]⟩ := by decide +kernel
theorem eaUn (w : World) (hT : UT w) : Calls Tryd.prog 54 #[.string ⟨#[97, 92, 117, 48, 48, 48, 48, 48, 65, 92, 92, 92]⟩, .int .i64 9] w fun e w' => ∃ a c, e = .returned (.slice a 4 c) ∧ Signs w' a [(97, 3), (10, 3), (92, 3), (92, 3)] ∧ Below w.heap.size w w' := by
  refine (unline_any eaL 9 w hT ea_asc (by decide) (by decide)).mono ?_
  rintro e w' ⟨v, rfl, h, hb⟩
  rw [ea_un] at h
  obtain ⟨a, c, rfl, hs⟩ := h.sl
  exact ⟨a, c, rfl, hs.s, hb⟩
end Go.Proofs.YtldblffhkokhlaaDoor
set_option linter.unusedVariables false
set_option linter.unusedSimpArgs false
namespace Go.Proofs.YtldblffhkokhlaaDoor
open Go.RowKit
/-- Pieces, a byte between. -/
def joB (b : UInt8) (p : List UInt8) (ps : List (List UInt8)) : List UInt8 := p ++ ps.flatMap fun q => b :: q
theorem joB_nil (b : UInt8) (p : List UInt8) : joB b p [] = p := by unfold joB; simp
theorem joB_cons (b : UInt8) (p q : List UInt8) (ps : List (List UInt8)) : joB b p (q :: ps) = p ++ b :: joB b q ps := by unfold joB; rw [List.flatMap_cons]; rfl
/-- A text's pieces. -/
def spB (b : UInt8) : List UInt8 → List UInt8 × List (List UInt8)
  | [] => ([], [])
  | c :: r => if c = b then ([], (spB b r).1 :: (spB b r).2) else (c :: (spB b r).1, (spB b r).2)
theorem spB_jo (b : UInt8) : ∀ l, joB b (spB b l).1 (spB b l).2 = l
  | [] => rfl
  | c :: r => by
    have ih := spB_jo b r
    unfold spB
    by_cases h : c = b
    · rw [if_pos h]
      show joB b [] ((spB b r).1 :: (spB b r).2) = _
      rw [joB_cons, ih, h]; rfl
    · rw [if_neg h]
      show joB b (c :: (spB b r).1) (spB b r).2 = _
      conv => rhs; rw [← ih]
      rfl
theorem spB_no (b : UInt8) : ∀ l, (∀ c ∈ (spB b l).1, c ≠ b) ∧ ∀ q ∈ (spB b l).2, ∀ c ∈ q, c ≠ b
  | [] => ⟨fun c h => (by cases h), fun q h => (by cases h)⟩
  | c :: r => by
    have ih := spB_no b r
    unfold spB
    by_cases h : c = b
    · rw [if_pos h]
      refine ⟨fun x hx => (by cases hx), fun q hq => ?_⟩
      rcases List.mem_cons.1 hq with rfl | hq
      · exact ih.1
      · exact ih.2 q hq
    · rw [if_neg h]
      refine ⟨fun x hx => ?_, ih.2⟩
      rcases List.mem_cons.1 hx with rfl | hx
      · exact h
      · exact ih.1 x hx
theorem spB_of (b : UInt8) (p : List UInt8) (ps : List (List UInt8)) (h : ∀ c ∈ p, c ≠ b) (h2 : ∀ q ∈ ps, ∀ c ∈ q, c ≠ b) : spB b (joB b p ps) = (p, ps) := by
  induction ps generalizing p with
  | nil =>
    rw [joB_nil]
    induction p with
    | nil => rfl
    | cons c p ih =>
      unfold spB
      rw [if_neg (h c (List.mem_cons_self ..)), ih (fun x hx => h x (List.mem_cons_of_mem _ hx))]
  | cons q ps ihp =>
    rw [joB_cons]
    induction p with
    | nil =>
      rw [List.nil_append]
      unfold spB
      rw [if_pos rfl, ihp q (h2 q (List.mem_cons_self ..)) (fun x hx => h2 x (List.mem_cons_of_mem _ hx))]
    | cons c p ih =>
      rw [List.cons_append]
      unfold spB
      rw [if_neg (h c (List.mem_cons_self ..)), ih (fun x hx => h x (List.mem_cons_of_mem _ hx))]
theorem ixb_at (b : UInt8) (a r : List UInt8) (h : ∀ c ∈ a, c ≠ b) : Lib.indexByte (a ++ b :: r) b = (a.length : Int) := by
  induction a with
  | nil => rw [List.nil_append]; unfold Lib.indexByte; rw [if_pos (by simp)]; rfl
  | cons c a ih =>
    have h1 := h c (List.mem_cons_self ..)
    have h2 := ih (fun x hx => h x (List.mem_cons_of_mem _ hx))
    rw [List.cons_append]
    unfold Lib.indexByte
    rw [if_neg (by simpa using h1), h2, if_neg (by simp), List.length_cons]
    omega
theorem spb_k (b : UInt8) (p : List UInt8) (ps : List (List UInt8)) (h : ∀ c ∈ p, c ≠ b) (h2 : ∀ q ∈ ps, ∀ c ∈ q, c ≠ b) : Lib.splitK [b] 0 ps.length (joB b p ps) = p :: ps := by
  induction ps generalizing p with
  | nil => rw [joB_nil]; rfl
  | cons q ps ih =>
    have ix : Lib.index (p ++ b :: joB b q ps) [b] = (p.length : Int) := by rw [Lib.index_one, ixb_at _ _ _ h]
    rw [joB_cons, List.length_cons]
    unfold Lib.splitK
    rw [ix, if_neg (by simp), Int.toNat_natCast, Nat.add_zero, List.take_left, List.length_singleton]
    congr 1
    rw [show (p ++ b :: joB b q ps).drop (p.length + 1) = joB b q ps by
      rw [List.drop_append, List.drop_of_length_le (by omega), show p.length + 1 - p.length = 1 by omega]; rfl]
    exact ih q (h2 q (List.mem_cons_self ..)) (fun m hm => h2 m (List.mem_cons_of_mem _ hm))
theorem spb_count (b : UInt8) (p : List UInt8) (ps : List (List UInt8)) (h : ∀ c ∈ p, c ≠ b) (h2 : ∀ q ∈ ps, ∀ c ∈ q, c ≠ b) : Lib.countB (mkL (joB b p ps)) ⟨#[b]⟩ = ps.length := by
  show Lib.count (joB b p ps) [b] = ps.length
  rw [Lib.count_one]
  induction ps generalizing p with
  | nil => rw [joB_nil]; exact List.count_eq_zero_of_not_mem (fun e => h b e rfl)
  | cons q ps ih =>
    rw [joB_cons, List.count_append, List.count_cons_self, ih q (h2 q (List.mem_cons_self ..)) (fun m hm => h2 m (List.mem_cons_of_mem _ hm)), List.count_eq_zero_of_not_mem (fun e => h b e rfl), List.length_cons]
    omega
theorem spb_splitB (b : UInt8) (l : List UInt8) : Lib.countB (mkL l) ⟨#[b]⟩ = (spB b l).2.length ∧ Lib.splitB ⟨#[b]⟩ 0 (Lib.countB (mkL l) ⟨#[b]⟩) (mkL l) = ((spB b l).1 :: (spB b l).2).map mkL := by
  have hn := spB_no b l
  have hc := spb_count b _ _ hn.1 hn.2
  have hk := spb_k b _ _ hn.1 hn.2
  rw [spB_jo] at hc hk
  refine ⟨hc, ?_⟩
  rw [hc]
  have hd := Lib.splitB_data ⟨#[b]⟩ 0 (spB b l).2.length (mkL l)
  have hm : ∀ L : List ByteArray, L = (L.map (·.data.toList)).map mkL := fun L => by
    rw [List.map_map]
    conv => lhs; rw [← List.map_id L]
    exact List.map_congr_left fun b _ => by
      show b = mkL b.data.toList
      unfold mkL
      rw [Array.toArray_toList]
  rw [hm (Lib.splitB ⟨#[b]⟩ 0 (spB b l).2.length (mkL l)), hd]
  congr 1
theorem split_b (b : UInt8) (s : ByteArray) (w : World) (hs : s.size < 4294967281) : Calls Tryd.prog 50 #[.string s, .string ⟨#[b]⟩] w fun e w' => e = .returned (.slice (some ⟨w.heap.size, 0, none⟩) (Lib.countB s ⟨#[b]⟩ + 1) (Lib.countB s ⟨#[b]⟩ + 1)) ∧ w.alloc (.cells ((Lib.splitB ⟨#[b]⟩ 0 (Lib.countB s ⟨#[b]⟩) s).map Value.string).toArray 9) = w' := by
  have hb1 : 1 ≤ (⟨#[b]⟩ : ByteArray).size := Nat.le_refl 1
  have hle := Lib.countB_le ⟨#[b]⟩ hb1 s.size s (Nat.le_refl _)
  have hlen := Lib.splitB_all ⟨#[b]⟩ hb1 0 _ s rfl
  have c := Any.strings_genSplit_core Tryd.lays221 (by kernel_rfl) s ⟨#[b]⟩ 0 (-1) (Lib.countB s ⟨#[b]⟩ + 1) w hs hb1 (Nat.zero_le _)
    (fun x c hx => by
      have h := Tryd.strings_Index_one x b (w.alloc (.cells c 9))
      refine Calls.mono h ?_
      rintro e w' ⟨rfl, rfl⟩
      refine ⟨?_, rfl⟩
      show _ = Ending.returned (Value.int .i64 (Lib.index x.data.toList [b]))
      rw [Lib.index_one])
    (by
      have h := Tryd.strings_Count_one s b w
      refine Calls.mono h ?_
      rintro e w' ⟨rfl, rfl⟩
      refine ⟨?_, rfl⟩
      show _ = Ending.returned (Value.int .i64 ((Lib.count s.data.toList [b] : Nat) : Int))
      rw [Lib.count_one]
      rfl)
    (by decide) (by decide) (by rw [if_pos (by decide)]; omega)
  rw [Nat.add_sub_cancel, hlen] at c
  have e2 : Lib.cellsOf (Lib.splitB ⟨#[b]⟩ 0 (Lib.countB s ⟨#[b]⟩) s) (Lib.countB s ⟨#[b]⟩ + 1) = ((Lib.splitB ⟨#[b]⟩ 0 (Lib.countB s ⟨#[b]⟩) s).map Value.string).toArray := by rw [← hlen]; exact Lib.cellsOf_full _
  rw [e2] at c
  have c' : Calls Tryd.prog 81 #[.string s, .string ⟨#[b]⟩, .int .i64 0, .int .i64 (-1)] w _ := c
  go_enter Tryd.func50, Tryd.ntmps50
  go_wp2_with (go_at_call 81; refine c'.mono ?_; rintro e w' ⟨rfl, hw⟩)
  go_ret
  exact ⟨rfl, rfl⟩
/-- Texts lie in memory. -/
def PcI (w : World) (g : Nat) (P : List (List UInt8)) : Prop := g < w.heap.size ∧ ∀ i, i < P.length → w.cell? ⟨g, i, none⟩ = some (.string (mkL (P.getD i [])))
theorem PcI.below {w w' : World} {g : Nat} {P : List (List UInt8)} (h : PcI w g P) (hb : Below w.heap.size w w') : PcI w' g P :=
  ⟨Nat.lt_of_lt_of_le h.1 hb.size, fun i hi => (hb.cell (p := ⟨g, i, none⟩) h.1).trans (h.2 i hi)⟩
def pcB (b : UInt8) (l : List UInt8) : List (List UInt8) := (spB b l).1 :: (spB b l).2
theorem splitb_any (b : UInt8) (l : List UInt8) (w : World) (hs : l.length < 4294967281) : Calls Tryd.prog 50 #[.string (mkL l), .string ⟨#[b]⟩] w fun e w' => e = .returned (.slice (some ⟨w.heap.size, 0, none⟩) (pcB b l).length (pcB b l).length) ∧ PcI w' w.heap.size (pcB b l) ∧ Below w.heap.size w w' := by
  have h0 := split_b b (mkL l) w (by rw [mkL_size]; exact hs)
  obtain ⟨h1, h2⟩ := spb_splitB b l
  rw [h2, h1] at h0
  refine h0.mono ?_
  rintro e w' ⟨rfl, rfl⟩
  refine ⟨rfl, ⟨by simp, fun i hi => ?_⟩, below_alloc _ _⟩
  rw [cell_of_row _ _ _ _ _ _ (heap_alloc_new _ _)]
  rw [List.getElem?_toArray, List.getElem?_map, List.getElem?_map]
  show Option.map Value.string (Option.map mkL (pcB b l)[i]?) = _
  rw [List.getD, List.getElem?_eq_getElem hi]
  rfl
theorem pcB_len (b : UInt8) (l : List UInt8) : (pcB b l).length ≤ l.length + 1 := by
  unfold pcB
  induction l with
  | nil => simp [spB]
  | cons c r ih =>
    unfold spB
    split
    · simp only [List.length_cons] at ih ⊢; omega
    · simp only [List.length_cons] at ih ⊢; omega
theorem joB_mem (b : UInt8) (p : List UInt8) (ps : List (List UInt8)) : p.length ≤ (joB b p ps).length ∧ ∀ q ∈ ps, q.length ≤ (joB b p ps).length := by
  refine ⟨by unfold joB; rw [List.length_append]; omega, fun q hq => ?_⟩
  induction ps generalizing p with
  | nil => cases hq
  | cons x ps ih =>
    rw [joB_cons, List.length_append, List.length_cons]
    rcases List.mem_cons.1 hq with rfl | hq
    · have : q.length ≤ (joB b q ps).length := by unfold joB; rw [List.length_append]; omega
      omega
    · have := ih x hq; omega
theorem pcB_mem (b : UInt8) (l : List UInt8) : ∀ q ∈ pcB b l, q.length ≤ l.length := by
  have h := joB_mem b (spB b l).1 (spB b l).2
  rw [spB_jo] at h
  intro q hq
  rcases List.mem_cons.1 hq with rfl | hq
  · exact h.1
  · exact h.2 q hq
end Go.Proofs.YtldblffhkokhlaaDoor
set_option linter.unusedVariables false
set_option linter.unusedSimpArgs false
namespace Go.Proofs.YtldblffhkokhlaaDoor
open Go.RowKit
theorem mkL_get (l : List UInt8) (k : Nat) (h : k < (mkL l).size) : (mkL l)[k]'h ∈ l := by
  have h' : k < l.length := by rw [mkL_size] at h; exact h
  have : (mkL l)[k]'h = l[k] := rfl
  rw [this]; exact List.getElem_mem h'
end Go.Proofs.YtldblffhkokhlaaDoor
set_option linter.unusedVariables false
set_option linter.unusedSimpArgs false
namespace Go.Proofs.YtldblffhkokhlaaDoor
open Go.RowKit
/-- What happened: its kind, the signs, the cursor. -/
abbrev Ev := Int × List (Int × Int) × Int
def evN (k : Int) : List UInt8 := if k = 1 then [97, 99, 99, 101, 112, 116] else if k = 2 then [98, 101, 108, 108] else if k = 3 then [97, 115, 107] else if k = 4 then [99, 97, 110, 99, 101, 108] else if k = 5 then [101, 111, 102] else if k = 6 then [101, 114, 97, 115, 101] else []
def evAb (k : Int) : Bool := decide (k = 1 ∨ k = 3 ∨ k = 4)
def evKn (k : Int) : Bool := decide (1 ≤ k ∧ k ≤ 6)
def evMay (v : Ev) : Bool := evKn v.1 && ((evAb v.1 || (decide (v.2.1.length = 0) && decide (v.2.2 = 0))) && (decide (0 ≤ v.2.2 ∧ v.2.2 ≤ v.2.1.length) && sgC v.2.1))
/-- The signs' letters, each run with its label ahead. -/
def tgL (l : List (Int × Int)) : Nat → List UInt8
  | 0 => []
  | k + 1 => tgL l k ++ ((if rnNew l k = true then 9 :: decS (l.getD k (0, 0)).2 else []) ++ leF (l.getD k (0, 0)).1)
/-- The line of what happened. -/
def evT (v : Ev) : List UInt8 := evN v.1 ++ (if evAb v.1 = true then 9 :: (decS v.2.2 ++ tgL v.2.1 v.2.1.length) else [])
/-- A run's piece. -/
def ruP (l : List (Int × Int)) (r : Rn) : List UInt8 := decS r.1 ++ lnL ((l.take r.2.2.toNat).drop r.2.1.toNat)
def evP (v : Ev) : List (List UInt8) := if evAb v.1 = true then decS v.2.2 :: (rnM v.2.1 v.2.1.length).map (ruP v.2.1) else []
theorem rn_flat {β : Type} (l : List (Int × Int)) (G : Rn → List β) (H : Nat → List β) (h0 : H 0 = [])
    (hn : ∀ k, k < l.length → rnNew l k = true → H (k + 1) = H k ++ G ((l.getD k (0, 0)).2, (k : Int), (k : Int) + 1))
    (he : ∀ (k : Nat) (u f : Int), k < l.length → 0 ≤ f → f ≤ k → rnNew l k = false → ∃ B, H (k + 1) = H k ++ B ∧ G (u, f, (k : Int) + 1) = G (u, f, (k : Int)) ++ B) :
    ∀ k, k ≤ l.length → (rnM l k).flatMap G = H k := by
  intro k
  induction k with
  | zero => intro _; rw [h0]; rfl
  | succ k ih =>
    intro hk
    have hi := ih (by omega)
    have ok := rn_ok l k (by omega)
    have e : rnM l (k + 1) = rnStep (rnM l k) (rnNew l k) (l.getD k (0, 0)).2 k := rfl
    rw [e]
    cases hw : rnNew l k
    · have hk0 : 0 < k := by
        unfold rnNew at hw
        rw [Bool.or_eq_false_iff] at hw
        have := of_decide_eq_false hw.1
        omega
      have hp := ok.pos hk0
      have hlast := ok.last hp
      have hbd := rn_bounds ok ((rnM l k).length - 1) (by omega)
      have hlt := ok.lt ((rnM l k).length - 1) (by omega)
      generalize hR : rnM l k = R at *
      unfold rnStep
      rw [if_neg (by simp)]
      obtain ⟨Q, x, rfl⟩ : ∃ Q x, R = Q ++ [x] := ⟨R.dropLast, R.getLast (List.length_pos_iff.1 hp), (List.dropLast_concat_getLast _).symm⟩
      have hg : (Q ++ [x]).getD ((Q ++ [x]).length - 1) (0, 0, 0) = x := by
        rw [getD_snoc, List.length_append, List.length_singleton, Nat.add_sub_cancel, if_neg (Nat.lt_irrefl _), if_pos rfl]
      rw [hg] at hlast hbd hlt
      obtain ⟨u, f, t⟩ := x
      dsimp only at hlast hbd hlt
      obtain ⟨B, hB1, hB2⟩ := he k u f (by omega) hbd.1 (by omega) hw
      rw [hg]
      have hs : (Q ++ [(u, f, t)]).set ((Q ++ [(u, f, t)]).length - 1) (u, f, (k : Int) + 1) = Q ++ [(u, f, (k : Int) + 1)] := by
        rw [List.length_append, List.length_singleton, Nat.add_sub_cancel, List.set_append_right _ _ (Nat.le_refl _), Nat.sub_self]; rfl
      show ((Q ++ [(u, f, t)]).set ((Q ++ [(u, f, t)]).length - 1) (u, f, (k : Int) + 1)).flatMap G = _
      rw [hs, hB1, ← hi, hlast, List.flatMap_append, List.flatMap_append, List.flatMap_cons, List.flatMap_nil, List.append_nil, List.flatMap_cons, List.flatMap_nil, List.append_nil, hB2, List.append_assoc]
    · unfold rnStep
      rw [if_pos rfl, List.flatMap_append, hi, hn k (by omega) hw, List.flatMap_cons, List.flatMap_nil, List.append_nil]
theorem cut_one (l : List (Int × Int)) (k : Nat) (h : k < l.length) : (l.take (k + 1)).drop k = [l.getD k (0, 0)] := by
  rw [List.take_succ_eq_append_getElem h, List.drop_append, List.drop_of_length_le (by rw [List.length_take]; omega), List.length_take, show k - min k l.length = 0 by omega, List.getD, List.getElem?_eq_getElem h]
  rfl
theorem cut_more (l : List (Int × Int)) (f k : Nat) (hf : f ≤ k) (h : k < l.length) : (l.take (k + 1)).drop f = (l.take k).drop f ++ [l.getD k (0, 0)] := by
  rw [List.take_succ_eq_append_getElem h, List.drop_append, List.length_take, show f - min k l.length = 0 by omega, List.getD, List.getElem?_eq_getElem h]
  rfl
theorem ru_tg (l : List (Int × Int)) : ∀ k, k ≤ l.length → (rnM l k).flatMap (fun r => 9 :: ruP l r) = tgL l k := by
  refine rn_flat l _ _ rfl (fun k hk hw => ?_) (fun k u f hk hf0 hf hw => ⟨leF (l.getD k (0, 0)).1, ?_, ?_⟩)
  · show tgL l k ++ ((if rnNew l k = true then _ else _) ++ _) = _
    rw [if_pos hw]
    unfold ruP
    dsimp only
    rw [show ((k : Int) + 1).toNat = k + 1 by omega, Int.toNat_natCast, cut_one l k hk, show lnL [l.getD k (0, 0)] = leF (l.getD k (0, 0)).1 by unfold lnL; simp]
    rfl
  · show tgL l k ++ ((if rnNew l k = true then _ else _) ++ _) = _
    rw [if_neg (by rw [hw]; decide)]; rfl
  · unfold ruP
    dsimp only
    rw [show ((k : Int) + 1).toNat = k + 1 by omega, Int.toNat_natCast, cut_more l f.toNat k (by omega) hk, lnL_app, show lnL [l.getD k (0, 0)] = leF (l.getD k (0, 0)).1 by unfold lnL; simp, List.cons_append, List.append_assoc]
theorem ru_all (l : List (Int × Int)) : ∀ k, k ≤ l.length → (rnM l k).flatMap (fun r => (l.take r.2.2.toNat).drop r.2.1.toNat) = l.take k := by
  refine rn_flat l _ _ rfl (fun k hk hw => ?_) (fun k u f hk hf0 hf hw => ⟨[l.getD k (0, 0)], ?_, ?_⟩)
  · dsimp only
    rw [show ((k : Int) + 1).toNat = k + 1 by omega, Int.toNat_natCast, cut_one l k hk, List.take_succ_eq_append_getElem hk, List.getD, List.getElem?_eq_getElem hk]; rfl
  · rw [List.take_succ_eq_append_getElem hk, List.getD, List.getElem?_eq_getElem hk]; rfl
  · dsimp only
    rw [show ((k : Int) + 1).toNat = k + 1 by omega, Int.toNat_natCast, cut_more l f.toNat k (by omega) hk]
theorem evT_jo (v : Ev) : evT v = joB 9 (evN v.1) (evP v) := by
  unfold evT joB evP
  by_cases h : evAb v.1 = true
  · rw [if_pos h, if_pos h, List.flatMap_cons, List.flatMap_map, ← ru_tg v.2.1 _ (Nat.le_refl _)]; rfl
  · rw [if_neg h, if_neg h]; rfl
theorem decS_tab : ∀ n : Nat, n < 1001 → ∀ c ∈ decS (n : Int), c ≠ 9 := by decide +kernel
theorem evN_tab (k : Int) : ∀ c ∈ evN k, c ≠ 9 ∧ c ≠ 10 := by
  unfold evN
  repeat' split
  all_goals decide
theorem rn_mem {l : List (Int × Int)} {r : Rn} (h : r ∈ rnM l l.length) : 0 ≤ r.2.1 ∧ r.2.1 < r.2.2 ∧ r.2.2 ≤ l.length ∧ ∀ j : Nat, r.2.1 ≤ j → (j : Int) < r.2.2 → (l.getD j (0, 0)).2 = r.1 := by
  have ok := rn_ok l l.length (Nat.le_refl _)
  obtain ⟨i, hi, e⟩ := List.getElem_of_mem h
  have e2 : (rnM l l.length).getD i (0, 0, 0) = r := by rw [List.getD, List.getElem?_eq_getElem hi, e]; rfl
  have h1 := rn_bounds ok i hi
  have h2 := ok.lt i hi
  have h3 := ok.all i hi
  rw [e2] at h1 h2 h3
  exact ⟨h1.1, h2, h1.2, h3⟩
theorem sg_lab {l : List (Int × Int)} (h : sgC l = true) : ∀ p ∈ l, 0 ≤ p.2 ∧ p.2 ≤ 5 := by
  intro p hp
  unfold sgC at h
  have := List.all_eq_true.1 h p hp
  unfold sgR at this
  simp only [Bool.and_eq_true, decide_eq_true_eq] at this
  exact ⟨this.1, this.2.1⟩
theorem getD_memS {l : List (Int × Int)} {k : Nat} (h : k < l.length) : l.getD k (0, 0) ∈ l := by
  rw [List.getD, List.getElem?_eq_getElem h]; exact List.getElem_mem h
theorem rn_lab {l : List (Int × Int)} (hok : sgC l = true) {r : Rn} (h : r ∈ rnM l l.length) : 0 ≤ r.1 ∧ r.1 ≤ 5 := by
  obtain ⟨h0, h1, h2, h3⟩ := rn_mem h
  have := h3 r.2.1.toNat (by omega) (by omega)
  rw [← this]
  exact sg_lab hok _ (getD_memS (by omega))
theorem cut_ok {l : List (Int × Int)} (hok : sgC l = true) (f t : Nat) : sgC ((l.take t).drop f) = true := by
  unfold sgC at *
  rw [List.all_eq_true] at *
  exact fun p hp => hok p (List.mem_of_mem_take (List.mem_of_mem_drop hp))
theorem ruP_asc {l : List (Int × Int)} (hok : sgC l = true) {r : Rn} (h : r ∈ rnM l l.length) : ∀ c ∈ ruP l r, 32 ≤ c.toNat ∧ c.toNat ≤ 126 := by
  have hl := rn_lab hok h
  intro c hc
  unfold ruP at hc
  rcases List.mem_append.1 hc with h1 | h1
  · rw [decS_pos1 r.1 hl.1 (by omega)] at h1
    have hd : ∀ n : Nat, n < 6 → 32 ≤ (dg n).toNat ∧ (dg n).toNat ≤ 126 := by decide
    have := List.mem_singleton.1 h1
    rw [this]
    exact hd _ (by omega)
  · exact lnL_ascii (cut_ok hok _ _) c h1
theorem evP_tab {v : Ev} (h : evMay v = true) (hl : v.2.1.length ≤ 1000) : ∀ q ∈ evP v, ∀ c ∈ q, c ≠ 9 := by
  unfold evMay at h
  simp only [Bool.and_eq_true, decide_eq_true_eq] at h
  obtain ⟨_, _, ⟨h0, h1⟩, hok⟩ := h
  unfold evP
  split
  · intro q hq
    rcases List.mem_cons.1 hq with rfl | hq
    · have := decS_tab v.2.2.toNat (by omega)
      rw [Int.toNat_of_nonneg h0] at this
      exact this
    · obtain ⟨r, hr, rfl⟩ := List.mem_map.1 hq
      intro c hc e
      have := ruP_asc hok hr c hc
      rw [e] at this
      exact absurd this.1 (by decide)
  · intro q hq; cases hq
theorem evT_pc {v : Ev} (h : evMay v = true) (hl : v.2.1.length ≤ 1000) : pcB 9 (evT v) = evN v.1 :: evP v := by
  unfold pcB
  rw [evT_jo, spB_of 9 _ _ (fun c hc => (evN_tab v.1 c hc).1) (evP_tab h hl)]
theorem leF_len8 {v : Int} (h : rightB v = true) : (leF v).length ≤ 8 := (leF_len h).2
theorem tgL_len {l : List (Int × Int)} (hok : sgC l = true) : ∀ k, k ≤ l.length → (tgL l k).length ≤ 10 * k := by
  intro k
  induction k with
  | zero => intro _; exact Nat.zero_le _
  | succ k ih =>
    intro hk
    have h1 := ih (by omega)
    have hm := getD_memS (l := l) (k := k) (by omega)
    have h2 := leF_len8 (sg_right hok _ hm)
    have h3 := sg_lab hok _ hm
    have h4 : (decS (l.getD k (0, 0)).2).length = 1 := by rw [decS_pos1 _ h3.1 (by omega)]; rfl
    show (tgL l k ++ (_ ++ _)).length ≤ _
    rw [List.length_append, List.length_append]
    have h5 : ((if rnNew l k = true then 9 :: decS (l.getD k (0, 0)).2 else []) : List UInt8).length ≤ 2 := by
      split
      · rw [List.length_cons, h4]; omega
      · exact Nat.zero_le _
    omega
theorem evT_len {v : Ev} (h : evMay v = true) : (evT v).length ≤ 10 * v.2.1.length + 28 := by
  unfold evMay at h
  simp only [Bool.and_eq_true, decide_eq_true_eq] at h
  obtain ⟨_, _, ⟨h0, h1⟩, hok⟩ := h
  have hN : (evN v.1).length ≤ 6 := by unfold evN; repeat' split
                                       all_goals decide
  have hT := tgL_len hok _ (Nat.le_refl _)
  have hD := decS_len v.2.2
  unfold evT
  split
  · rw [List.length_append, List.length_cons, List.length_append]; omega
  · rw [List.length_append, List.length_nil]; omega
end Go.Proofs.YtldblffhkokhlaaDoor
set_option linter.unusedVariables false
set_option linter.unusedSimpArgs false
namespace Go.Proofs.YtldblffhkokhlaaDoor
open Go.RowKit
theorem rletters_ref (v : Int) (w : World) (hr : rightB v = true) : Calls Tryd.prog 56 #[.int .i64 v] w fun e w' => e = .returned (.string (mkL (leF v))) ∧ Below w.heap.size w w' := by
  have hg := right_rng hr
  unfold leF
  by_cases h1 : v = 92
  · subst h1
    rw [if_pos rfl]
    go_enter Tryd.func56, Tryd.ntmps56
    go_wp2
    go_ret
    exact ⟨rfl, Below.refl _ _⟩
  · have h1b : (v == 92) = false := beq_eq_false_iff_ne.2 h1
    rw [if_neg h1]
    by_cases h2 : 32 ≤ v ∧ v ≤ 126
    · rw [if_pos h2]
      have h3 : (32 : Int) ≤ v := h2.1
      have h4 : v ≤ (126 : Int) := h2.2
      have hcv : ∀ dst, Tryd.prog.underlying dst = some .string → (convert 59 dst (.slice (some ⟨w.heap.size, 0, none⟩) 1 1)).run Tryd.prog (w.alloc (Obj.cells #[.int .u8 v] 5)) = .ok (.string (mkL [v.toNat.toUInt8])) (w.alloc (Obj.cells #[.int .u8 v] 5)) := conv_new w [v] 1 rfl
      clear h2 hr hg h1
      go_enter Tryd.func56, Tryd.ntmps56
      go_wp2
      go_ret
      exact ⟨rfl, below_alloc _ _⟩
    · rw [if_neg h2]
      have HX := fun w => hex_ref 16 v 6 w (by omega) (by omega) (Nat.lt_of_le_of_lt (show v.toNat ≤ 1114367 by omega) (by decide)) (by omega) (by omega) (by omega)
      rw [hexN_L v 6 (by omega)] at HX
      obtain ⟨he, hl6, _⟩ := hex6 hr
      have hcat : (⟨#[92, 117]⟩ : ByteArray) ++ ⟨(hexL v 6).toArray⟩ = mkL (92 :: 117 :: hexS v 6) := by rw [he]; exact ba_app [92, 117] _
      have hsz : (⟨(hexL v 6).toArray⟩ : ByteArray).size ≤ 20 := by
        rw [size_list]
        omega
      rw [← hcat]
      clear hcat he hl6
      generalize (⟨(hexL v 6).toArray⟩ : ByteArray) = u at *
      replace HX := Lib.hid HX
      clear hr
      by_cases h3 : (32 : Int) ≤ v
      · have h4 : ¬ v ≤ (126 : Int) := fun h => h2 ⟨h3, h⟩
        clear h2 hg h1
        go_enter Tryd.func56, Tryd.ntmps56
        go_wp2_with (go_at_call 86; refine (HX.out _).mono ?_; rintro e w1 ⟨rfl, rfl⟩)
        go_ret
        exact ⟨rfl, Below.refl _ _⟩
      · clear h2 hg h1
        go_enter Tryd.func56, Tryd.ntmps56
        go_wp2_with (go_at_call 86; refine (HX.out _).mono ?_; rintro e w1 ⟨rfl, rfl⟩)
        go_ret
        exact ⟨rfl, Below.refl _ _⟩
theorem mkL_app (a b : List UInt8) : mkL a ++ mkL b = mkL (a ++ b) := ba_app a b
/-- May all signs be? -/
def sgA (h : List (List (Int × Int))) : Bool := h.all sgC
/-- Signs of another label. -/
def wiL (l : List (Int × Int)) (u : Int) : List (Int × Int) := l.map fun p => (p.1, u)
/-- Entries that are not far too many. -/
def ltB (h : List (List (Int × Int))) : Bool := decide (h.length ≤ 30) && h.all fun l => decide (l.length ≤ 60)
end Go.Proofs.YtldblffhkokhlaaDoor
set_option linter.unusedVariables false
set_option linter.unusedSimpArgs false
namespace Go.Proofs.YtldblffhkokhlaaDoor
open Go.RowKit
/-- The kind that is named so. -/
def evKo (p : List UInt8) : Int := if p = [97, 99, 99, 101, 112, 116] then 1 else if p = [98, 101, 108, 108] then 2 else if p = [97, 115, 107] then 3 else if p = [99, 97, 110, 99, 101, 108] then 4 else if p = [101, 111, 102] then 5 else if p = [101, 114, 97, 115, 101] then 6 else 0
theorem evKo_N {k : Int} (h : evKn k = true) : evKo (evN k) = k := by
  have h1 := of_decide_eq_true h
  obtain rfl | rfl | rfl | rfl | rfl | rfl : k = 1 ∨ k = 2 ∨ k = 3 ∨ k = 4 ∨ k = 5 ∨ k = 6 := by omega
  all_goals decide
/-- A piece's signs. -/
def rdP (U : List UInt8 → Nat → List Int) (q : List UInt8) : List (Int × Int) := (U (q.drop 1) q.length).map fun x => (x, ((q.headD 0).toNat : Int) - 48)
def evC (U : List UInt8 → Nat → List Int) (P : List (List UInt8)) : Option Ev :=
  match P with
  | [] => none
  | [p] => some (evKo p, [], 0)
  | p :: q :: rs => if undE q = 0 then (if rs.any (fun r => decide (r = [])) = true then none else some (evKo p, rs.flatMap (rdP U), undR q)) else none
/-- What a line tells. -/
def evR (U : List UInt8 → Nat → List Int) (s : List UInt8) : Option Ev :=
  match evC U (pcB 9 s) with
  | none => none
  | some v => if (evMay v && decide (evT v = s)) = true then some v else none
theorem evR_some {U : List UInt8 → Nat → List Int} {s : List UInt8} {v : Ev} (h : evR U s = some v) : evMay v = true ∧ evT v = s := by
  unfold evR at h
  split at h
  · cases h
  · split at h
    · rename_i hc
      obtain rfl := Option.some.inj h
      simpa using hc
    · cases h
theorem ln_ge {l : List (Int × Int)} (h : ∀ p ∈ l, rightB p.1 = true) : l.length ≤ (lnL l).length := by
  induction l with
  | nil => exact Nat.zero_le _
  | cons p l ih =>
    rw [lnL_cons, List.length_append, List.length_cons]
    have := (leF_len (h p (List.mem_cons_self ..))).1
    have := ih (fun q hq => h q (List.mem_cons_of_mem _ hq))
    omega
theorem map_lab {l : List (Int × Int)} {u : Int} (h : ∀ p ∈ l, p.2 = u) : (l.map (·.1)).map (fun x => (x, u)) = l := by
  rw [List.map_map]
  conv => rhs; rw [← List.map_id l]
  refine List.map_congr_left fun p hp => ?_
  have := h p hp
  obtain ⟨a, b⟩ := p
  dsimp only at this
  subst this; rfl
theorem mem_cut {l : List (Int × Int)} {f t : Nat} {p : Int × Int} (h : p ∈ (l.take t).drop f) : ∃ j, f ≤ j ∧ j < t ∧ j < l.length ∧ l.getD j (0, 0) = p := by
  obtain ⟨i, hi, e⟩ := List.getElem_of_mem h
  rw [List.length_drop, List.length_take] at hi
  refine ⟨f + i, by omega, by omega, by omega, ?_⟩
  rw [List.getElem_drop, List.getElem_take] at e
  rw [List.getD, List.getElem?_eq_getElem (by omega), ← e]; rfl
theorem rdP_ru {U : List UInt8 → Nat → List Int} (hU : ∀ (l : List (Int × Int)) (k : Nat), (∀ p ∈ l, rightB p.1 = true) → l.length ≤ k → U (lnL l) k = l.map (·.1)) {l : List (Int × Int)} (hok : sgC l = true) {r : Rn} (h : r ∈ rnM l l.length) :
    rdP U (ruP l r) = (l.take r.2.2.toNat).drop r.2.1.toNat := by
  have hl := rn_lab hok h
  obtain ⟨h0, h1, h2, h3⟩ := rn_mem h
  have hr := sg_right (cut_ok hok r.2.1.toNat r.2.2.toNat)
  have hlab : ∀ p ∈ (l.take r.2.2.toNat).drop r.2.1.toNat, p.2 = r.1 := fun p hp => by
    obtain ⟨j, j1, j2, j3, rfl⟩ := mem_cut hp
    exact h3 j (by omega) (by omega)
  unfold rdP ruP
  generalize (l.take r.2.2.toNat).drop r.2.1.toNat = m at *
  rw [decS_pos1 r.1 hl.1 (by omega)]
  have hd : ∀ n : Nat, n < 6 → ((dg n).toNat : Int) - 48 = n := by decide
  have e1 := hd r.1.toNat (by omega)
  rw [Int.toNat_of_nonneg hl.1] at e1
  rw [List.singleton_append, List.drop_one, List.tail_cons, List.headD_cons, List.length_cons, e1, hU m _ hr (by have := ln_ge hr; omega), map_lab hlab]
theorem ruP_ne (l : List (Int × Int)) (r : Rn) : ruP l r ≠ [] := by
  unfold ruP
  intro h
  exact decS_ne r.1 (List.append_eq_nil_iff.1 h).1
theorem flat_congr {α β : Type} {f g : α → List β} : ∀ {L : List α}, (∀ x ∈ L, f x = g x) → L.flatMap f = L.flatMap g
  | [], _ => rfl
  | x :: L, h => by rw [List.flatMap_cons, List.flatMap_cons, h x (List.mem_cons_self ..), flat_congr (fun y hy => h y (List.mem_cons_of_mem _ hy))]
theorem evR_good {U : List UInt8 → Nat → List Int} (hU : ∀ (l : List (Int × Int)) (k : Nat), (∀ p ∈ l, rightB p.1 = true) → l.length ≤ k → U (lnL l) k = l.map (·.1)) {v : Ev} (h : evMay v = true) (hl : v.2.1.length ≤ 1000) : evR U (evT v) = some v := by
  have hm := h
  unfold evMay at h
  simp only [Bool.and_eq_true, decide_eq_true_eq] at h
  obtain ⟨hk, hab, ⟨h0, h1⟩, hok⟩ := h
  have hc : evC U (pcB 9 (evT v)) = some v := by
    rw [evT_pc hm hl]
    unfold evP
    by_cases ha : evAb v.1 = true
    · rw [if_pos ha]
      have hd := und_dec v.2.2 (by omega) (by omega)
      have hany : ((rnM v.2.1 v.2.1.length).map (ruP v.2.1)).any (fun r => decide (r = [])) = false := by
        rw [List.any_eq_false]
        intro x hx
        obtain ⟨r, _, rfl⟩ := List.mem_map.1 hx
        simp [ruP_ne]
      unfold evC
      dsimp only
      rw [if_pos hd.2, hany, if_neg (by decide), evKo_N hk, hd.1, List.flatMap_map, flat_congr (g := fun r => (v.2.1.take r.2.2.toNat).drop r.2.1.toNat) (fun r hr => rdP_ru hU hok hr), ru_all _ _ (Nat.le_refl _), List.take_length]
    · rw [if_neg ha]
      have hz : v.2.1.length = 0 ∧ v.2.2 = 0 := by
        have : evAb v.1 = false := by simpa using ha
        rw [this] at hab
        simpa using hab
      unfold evC
      dsimp only
      rw [evKo_N hk]
      obtain ⟨a, b, c⟩ := v
      dsimp only at hz ⊢
      rw [hz.2, List.length_eq_zero_iff.1 hz.1]
  unfold evR
  rw [hc]
  dsimp only
  rw [if_pos (by rw [hm]; simp)]
end Go.Proofs.YtldblffhkokhlaaDoor
set_option linter.unusedVariables false
set_option linter.unusedSimpArgs false
namespace Go.Proofs.YtldblffhkokhlaaDoor
open Go.RowKit
def evRow (k : Int) : List Value := [.int .i64 k, .string (mkL (evN k)), .bool (evAb k)]
def evV (k : Int) : Value := .agg #[.int .i64 k, .string (mkL (evN k)), .bool (evAb k)]
def evTab : List Int := [1, 2, 3, 4, 5, 6]
def evCells : List Value := evTab.flatMap evRow
/-- The table lies in memory. -/
structure EVT (w : World) : Prop where
  cell : ∀ i, i < 18 → w.cell? ⟨0, i, none⟩ = evCells[i]?
  lt : 0 < w.heap.size
theorem EVT.below {w w' : World} (h : EVT w) (hb : Below w.heap.size w w') : EVT w' :=
  ⟨fun i hi => (hb.cell (p := ⟨0, i, none⟩) h.lt).trans (h.cell i hi), Nat.lt_of_lt_of_le h.lt hb.size⟩
theorem undEv : Tryd.prog.underlying 131 = some (.array 6 79) := by kernel_rfl
theorem infoEv : (Tryd.prog.info? 131).map (·.size) = some 18 := by kernel_rfl
theorem run_loadVar_rows {P : Program} (w : World) (g : Nat) (ty : TypeId) (cs : List Value) (d : TypeDesc) (hg : ∀ j v, cs[j]? = some v → w.cell? ⟨g, j, none⟩ = some v)
    (hu : P.underlying ty = some d) (hd : (match d with | .struct _ | .array _ _ => true | _ => false) = true) (hi : (P.info? ty).map (·.size) = some cs.length) :
    (loadVar ty ⟨g, 0, none⟩).run P w = .ok (.agg cs.toArray) w := by
  have hl : (loadCells ⟨g, 0, none⟩ cs.length).run P w = .ok cs.toArray w :=
    run_loadCells_list (P := P) w ⟨g, 0, none⟩ cs (fun j v hv => by
      have hadd : (⟨g, 0, none⟩ : Addr).add j = ⟨g, j, none⟩ := by unfold Addr.add; split <;> simp_all
      rw [hadd]; exact hg j v hv)
  cases hq : P.info? ty with
  | none => simp [hq] at hi
  | some i =>
    have hs : i.size = cs.length := by simpa [hq] using hi
    have hagg : (isAgg ty).run P w = .ok true w := by
      unfold isAgg
      rw [Sem.run_bind, run_underlying hu w]
      cases d <;> simp_all
    simp [loadVar, Sem.run_bind, hagg, sizeOf, typeInfo, hq, hs, hl]
theorem evLoad (w : World) (h : EVT w) : (loadVar 131 ⟨0, 0, none⟩).run Tryd.prog w = .ok (.agg evCells.toArray) w :=
  run_loadVar_rows w _ _ evCells _ (fun j v hv => by
    have hj : j < 18 := (List.getElem?_eq_some_iff.1 hv).1
    rw [h.cell j hj]; exact hv) undEv rfl infoEv
theorem wpList_load_ev {ops : Array Oper} {rest : List Oper} {dst : Option Tmp} {ty : TypeId} {pos : String} {after : Array Edge} {a : Act} {w : World} {Q : Exit → Act → World → Prop} (hT : EVT w)
    (h : wpList Tryd.prog ops Q rest (a.put dst (.agg evCells.toArray)) w) :
    wpList Tryd.prog ops Q ({ dst := dst, op := .load 131 (.global 0), type := ty, pos := pos, after := after, guard := none } :: rest) a w := by
  refine wpList_plain rfl fun _ hK => ?_
  have hx : a.eval (.global 0) = .pointer (some ⟨0, 0, none⟩) := rfl
  unfold Oper.wp execOp
  simp only [hx, Instr.loadAt, Instr.sureAddr, Sem.run_bind, Sem.run_pure, Result.andThen_ok, evLoad w hT]
  exact hK _ _ h
theorem evIdx (k : Nat) (hk : k < 6) (w : World) : (Instr.index 131 (.agg evCells.toArray) (.int .i64 (k : Int))).run Tryd.prog w = .ok (evV ((k : Int) + 1)) w := by
  have hagg : (isAgg 79).run Tryd.prog w = .ok true w := by kernel_rfl
  have hsz : (sizeOf 79).run Tryd.prog w = .ok 3 w := by kernel_rfl
  have hex : List.take 3 (List.drop (k * 3) evCells) = evRow ((k : Int) + 1) := by
    match k, hk with
    | 0, _ => rfl
    | 1, _ => rfl
    | 2, _ => rfl
    | 3, _ => rfl
    | 4, _ => rfl
    | 5, _ => rfl
  have h0 : (0 : Int) ≤ k := by omega
  have h1 : (k : Int) < 6 := by omega
  simp only [Instr.index, asIntOf, Sem.run_bind, run_underlying undEv, Sem.run_pure, Result.andThen, Result.andThen_ok]
  simp only [h0, h1, true_and, if_true, part, Sem.run_bind, hsz, hagg, Result.andThen, Result.andThen_ok, Sem.run_pure, Int.toNat_natCast]
  simp [hex, evV, h1]
  simp [evRow]
theorem evNe_rng {k : Int} (h : ¬ (1 ≤ k ∧ k ≤ 6)) : evN k = [] ∧ evAb k = false ∧ evKn k = false := by
  refine ⟨?_, decide_eq_false (by omega), decide_eq_false h⟩
  unfold evN
  rw [if_neg (by omega), if_neg (by omega), if_neg (by omega), if_neg (by omega), if_neg (by omega), if_neg (by omega)]
/-- Three stores into a block. -/
theorem three_set {w : World} {b : Nat} {x0 x1 x2 : Value} {T : TypeId} {f : Nat × Nat} (h : w.heap[b]? = some (.cells #[x0, x1, x2] T f)) (v0 v1 v2 : Value) :
    (((w.setCell ⟨b, 0, none⟩ v0).setCell ⟨b, 1, none⟩ v1).setCell ⟨b, 2, none⟩ v2).heap[b]? = some (.cells #[v0, v1, v2] T f) :=
  blk_set (blk_set (blk_set h 0 _) 1 _) 2 _
theorem three_below (w w0 : World) (b : Nat) (v0 v1 v2 : Value) (hb : w0.heap.size ≤ b) (h : Below w0.heap.size w0 w) :
    Below w0.heap.size w0 (((w.setCell ⟨b, 0, none⟩ v0).setCell ⟨b, 1, none⟩ v1).setCell ⟨b, 2, none⟩ v2) :=
  ((h.setCell (p := ⟨b, 0, none⟩) hb v0).setCell (p := ⟨b, 1, none⟩) hb v1).setCell (p := ⟨b, 2, none⟩) hb v2
/-- The row of a kind. -/
def evRo (k : Int) : Value := .agg #[.int .i64 (if evKn k = true then k else 0), .string (mkL (evN k)), .bool (evAb k)]
set_option maxHeartbeats 4000000 in
set_option maxRecDepth 100000 in
theorem rowof_any (kind : Int) (w : World) (hK : EVT w) : Calls Tryd.prog 39 #[.int .i64 kind] w fun e w' => e = .returned (.tuple #[evRo kind, .bool (evKn kind)]) ∧ Below w.heap.size w w' := by
  have B0 := below_alloc w (.cells #[.int .i64 0, .string ⟨#[]⟩, .bool false] 79)
  have hq := Lib.hid (heap_alloc_new w (.cells #[.int .i64 0, .string ⟨#[]⟩, .bool false] 79))
  have hld := Lib.hid (hK.below B0)
  obtain ⟨W0, hW0⟩ : ∃ W0, w.alloc (.cells #[.int .i64 0, .string ⟨#[]⟩, .bool false] 79) = W0 := ⟨_, rfl⟩
  rw [hW0] at B0 hq hld
  have hs0 := B0.size
  clear hK
  go_enter Tryd.func39, Tryd.ntmps39
  go_upto_region 1 with fail
  clear hW0
  go_wp2_with (with_reducible refine wpList_load_ev hld.out ?_)
  clear hld
  go_loopw [7] (fun iv wr => ∃ k : Nat, k ≤ 6 ∧ iv = .int .i64 (k : Int) ∧ Hid (∀ j : Nat, j < k → (j : Int) + 1 ≠ kind) ∧ Below W0.heap.size W0 wr) (fun iv _ => 6 - (intOf iv).toNat)
  case atStart => exact ⟨0, by omega, rfl, Lib.hid (fun j hj => absurd hj (Nat.not_lt_zero j)), Below.refl _ _⟩
  case round =>
    obtain ⟨k, hk, rfl, HE, hb⟩ := hrel
    have hqr := blk_below hq.out hb
    have hql : w.heap.size < W0.heap.size := blk_lt hq.out
    have hsz := hb.size
    by_cases hlt : k < 6
    · have hk0 : (0 : Int) ≤ k := by omega
      have hk1 : (k : Int) < 6 := by omega
      have hix := fun w => evIdx k hlt w
      unfold evV at hix
      have hkn : evKn ((k : Int) + 1) = true := decide_eq_true (by omega)
      have hn1 : (k : Int) + 1 ≤ 6 := by omega
      obtain ⟨n, hn⟩ : ∃ n, (k : Int) + 1 = n := ⟨_, rfl⟩
      rw [hn] at hix hkn
      have B1 := below_alloc wr (.cells #[.int .i64 n, .string (mkL (evN n)), .bool (evAb n)] 79)
      by_cases h1 : n = kind
      · subst h1
        have HF : Hid (evRo n = .agg #[.int .i64 n, .string (mkL (evN n)), .bool (evAb n)] ∧ evKn n = true) := Lib.hid ⟨by unfold evRo; rw [if_pos hkn], hkn⟩
        have hq1 := blk_below hqr B1
        have HN := seqB B0 (hb.trans (B1.mono hsz))
        generalize mkL (evN n) = s at *
        generalize evAb n = ab at *
        clear HE hqr hkn hn hn1
        have zf := fun i => frozen_of_row _ w.heap.size i _ _ hq1
        have zz := fun i => cell_of_row _ _ i _ _ _ hq1
        have z0 := zz 0; have z1 := zz 1; have z2 := zz 2
        dsimp at z0 z1 z2
        have hql1 := blk_lt hq1
        have hfin := Lib.hid (three_set hq1 (.int .i64 n) (.string s) (.bool ab))
        have NF := Lib.hid (three_below _ w w.heap.size (.int .i64 n) (.string s) (.bool ab) (Nat.le_refl _) HN)
        clear zz hq1 HN
        go_wp2
        generalize hWF : World.setCell _ _ _ = WF
        have hqf : WF.heap[w.heap.size]? = some (.cells #[.int .i64 n, .string s, .bool ab] 79 (0, 0)) := by rw [← hWF]; exact hfin.out
        have hN : Below w.heap.size w WF := by rw [← hWF]; exact NF.out
        have y := fun i => cell_of_row _ _ i _ _ _ hqf
        have y0 := y 0; have y1 := y 1; have y2 := y 2
        dsimp at y0 y1 y2
        clear y hqf hWF
        refine bodyPost_ret (v := .tuple #[.agg #[.int .i64 n, .string s, .bool ab], .bool true]) (by simp [results, Tryd.results39, go_sem, y0, y1, y2]) rfl ?_
        rw [HF.out.1, HF.out.2]
        exact ⟨rfl, hN⟩
      · have HE2 : Hid (∀ j : Nat, j < k + 1 → (j : Int) + 1 ≠ kind) := Lib.hid fun j hj => by
          by_cases e : j = k
          · rw [e, hn]; exact h1
          · exact HE.out j (by omega)
        generalize mkL (evN n) = s at *
        generalize evAb n = ab at *
        have hn' := Lib.hid hn
        clear hqr hkn hn
        go_wp2
        go_roundw
        case rel => exact ⟨k + 1, by omega, by go_num, HE2, hb.trans (B1.mono hsz)⟩
        case measure => (simp [intOf]; try omega)
    · obtain rfl : k = 6 := by omega
      have hno : ¬ (1 ≤ kind ∧ kind ≤ 6) := fun h => HE.out (kind - 1).toNat (by omega) (by omega)
      obtain ⟨e1, e2, e3⟩ := evNe_rng hno
      have HF : Hid (evRo kind = .agg #[.int .i64 0, .string ⟨#[]⟩, .bool false] ∧ evKn kind = false) := Lib.hid ⟨by unfold evRo; rw [e3, e1, e2]; rfl, e3⟩
      clear e1 e2 e3 hno
      have HN := seqB B0 hb
      have zf := fun i => frozen_of_row _ w.heap.size i _ _ hqr
      have zz := fun i => cell_of_row _ _ i _ _ _ hqr
      have z0 := zz 0; have z1 := zz 1; have z2 := zz 2
      dsimp at z0 z1 z2
      have hql1 := blk_lt hqr
      have hfin := Lib.hid (three_set hqr (.int .i64 0) (.string ⟨#[]⟩) (.bool false))
      have NF := Lib.hid (three_below _ w w.heap.size (.int .i64 0) (.string ⟨#[]⟩) (.bool false) (Nat.le_refl _) HN)
      clear zz hqr HN HE
      go_wp2
      generalize hWF : World.setCell _ _ _ = WF
      have hqf : WF.heap[w.heap.size]? = some (.cells #[.int .i64 0, .string ⟨#[]⟩, .bool false] 79 (0, 0)) := by rw [← hWF]; exact hfin.out
      have hN : Below w.heap.size w WF := by rw [← hWF]; exact NF.out
      have y := fun i => cell_of_row _ _ i _ _ _ hqf
      have y0 := y 0; have y1 := y 1; have y2 := y 2
      dsimp at y0 y1 y2
      clear y hqf hWF
      refine bodyPost_ret (v := .tuple #[.agg #[.int .i64 0, .string ⟨#[]⟩, .bool false], .bool false]) (by simp [results, Tryd.results39, go_sem, y0, y1, y2]) rfl ?_
      rw [HF.out.1, HF.out.2]
      exact ⟨rfl, hN⟩
end Go.Proofs.YtldblffhkokhlaaDoor
set_option linter.unusedVariables false
set_option linter.unusedSimpArgs false
namespace Go.Proofs.YtldblffhkokhlaaDoor
open Go.RowKit
def evE (v : Ev) : Int := if evMay v = true then 0 else 2
theorem evE_no {v : Ev} (h : evMay v = false) : evE v = 2 := by unfold evE; rw [h]; rfl
theorem evE_yes {v : Ev} (h : evMay v = true) : evE v = 0 := by unfold evE; rw [h]; rfl
set_option maxHeartbeats 4000000 in
set_option maxRecDepth 100000 in
theorem echeck_any (k : Int) (l : List (Int × Int)) (p : Int) (n : Nat) (a : Option Addr) (c : Nat) (w : World) (hn : l.length = n) (hK : EVT w) (hl : n ≤ 9223372036854775807) (hs : Signs w a l) :
    Calls Tryd.prog 16 #[.agg #[.int .i64 k, .slice a n c, .int .i64 p]] w fun e w' => e = .returned (.int .i64 (evE (k, l, p))) ∧ Below w.heap.size w w' := by
  have B0 := below_alloc w (.cells #[.int .i64 k, .slice a n c, .int .i64 p] 24)
  have hq := heap_alloc_new w (.cells #[.int .i64 k, .slice a n c, .int .i64 p] 24)
  obtain ⟨W0, hW0⟩ : ∃ W0, w.alloc (.cells #[.int .i64 k, .slice a n c, .int .i64 p] 24) = W0 := ⟨_, rfl⟩
  rw [hW0] at B0 hq
  have RO := rowof_any k W0 (hK.below B0)
  have SC := fun (wx : World) (hb : Below W0.heap.size W0 wx) => scheck_any l a c wx (by omega) ((hs.below B0).below hb)
  rw [hn] at SC
  have hMay : evMay (k, l, p) = (evKn k && ((evAb k || (decide (n = 0) && decide (p = 0))) && (decide (0 ≤ p ∧ p ≤ n) && sgC l))) := by unfold evMay; dsimp only; rw [hn]
  have HE : ∀ b, evMay (k, l, p) = b → evE (k, l, p) = if b = true then 0 else 2 := fun b h => by unfold evE; rw [h]
  have hE2 : sgE l = if sgC l = true then 0 else 2 := rfl
  rw [hMay] at HE
  unfold evRo at RO
  generalize evE (k, l, p) = E at *
  generalize (if evKn k = true then k else 0) = kk at RO
  generalize mkL (evN k) = s at RO
  generalize hab : evAb k = ab at *
  generalize hkn : evKn k = kn at *
  generalize sgC l = sg at *
  generalize sgE l = se at *
  clear hMay hab hkn hK hs
  have hq' := Lib.hid hq
  have HSC := Lib.hid SC
  replace RO := Lib.hid RO
  clear SC
  have y := fun (wx : World) (hb : Below W0.heap.size W0 wx) i => cell_of_row _ _ i _ _ _ (blk_below hq hb)
  have HY := Lib.hid y
  clear hq y
  have B0' := Lib.hid B0
  have e1 : Hid (∀ w1 : World, Below W0.heap.size W0 w1 → ∀ o, Below W0.heap.size W0 (w1.alloc o)) := Lib.hid fun w1 h o => h.alloc h.size o
  cases kn
  · have hE : Hid (E = 2) := Lib.hid (by rw [HE _ (Bool.false_and _)]; rfl)
    clear HE hE2 hn
    have z := HY.out W0 (Below.refl _ _)
    have z0 := z 0
    dsimp at z0
    clear z B0
    go_enter Tryd.func16, Tryd.ntmps16
    go_upto_region 1 with fail
    clear hW0
    go_wp2_with (go_at_call 39; refine RO.out.mono ?_; rintro e w1 ⟨rfl, hb1⟩; have N1 := Lib.hid fun bb => B0'.out.trans ((e1.out _ hb1 (.cells #[.int .i64 kk, .string s, .bool bb] 79)).mono B0'.out.size); clear hb1)
    go_ret
    rw [hE.out]
    exact ⟨rfl, N1.out _⟩
  · have hdec : (¬ ab = true ∧ (¬ n = 0 ∨ ¬ p = 0)) ∨ (p < 0 ∨ (n : Int) < p) ∨ ((ab = true ∨ (n = 0 ∧ p = 0)) ∧ 0 ≤ p ∧ p ≤ (n : Int)) := by
      by_cases h1 : ab = true
      · by_cases h2 : p < 0 ∨ (n : Int) < p
        · exact Or.inr (Or.inl h2)
        · exact Or.inr (Or.inr ⟨Or.inl h1, by omega, by omega⟩)
      · by_cases h2 : n = 0 ∧ p = 0
        · exact Or.inr (Or.inr ⟨Or.inr h2, by omega, by omega⟩)
        · exact Or.inl ⟨h1, by omega⟩
    rcases hdec with ⟨h1, h2⟩ | h2 | ⟨h1, h2, h3⟩
    · obtain rfl : ab = false := by simpa using h1
      have hE : Hid (E = 2) := Lib.hid (by
        have hf : (decide (n = 0) && decide (p = 0)) = false := by
          rw [Bool.and_eq_false_iff]
          rcases h2 with h | h
          · exact Or.inl (decide_eq_false h)
          · exact Or.inr (decide_eq_false h)
        rw [HE false (by rw [hf]; rfl)]; rfl)
      clear HE hE2 hn h1
      have z := HY.out W0 (Below.refl _ _)
      have z0 := z 0
      dsimp at z0
      clear z B0
      by_cases h3 : n = 0
      · have h4 : ¬ p = 0 := by omega
        subst h3
        go_enter Tryd.func16, Tryd.ntmps16
        go_upto_region 1 with fail
        clear hW0
        go_wp2_with (go_at_call 39; refine RO.out.mono ?_; rintro e w1 ⟨rfl, hb1⟩; have N1 := Lib.hid fun bb => B0'.out.trans ((e1.out _ hb1 (.cells #[.int .i64 kk, .string s, .bool bb] 79)).mono B0'.out.size); have y := HY.out _ (e1.out _ hb1 (.cells #[.int .i64 kk, .string s, .bool false] 79)); have y1 := y 1; have y2 := y 2; dsimp at y1 y2; clear y hb1)
        go_ret
        rw [hE.out]
        exact ⟨rfl, N1.out _⟩
      · have h4 : (0 : Int) < (n : Int) := by omega
        go_enter Tryd.func16, Tryd.ntmps16
        go_upto_region 1 with fail
        clear hW0
        go_wp2_with (go_at_call 39; refine RO.out.mono ?_; rintro e w1 ⟨rfl, hb1⟩; have N1 := Lib.hid fun bb => B0'.out.trans ((e1.out _ hb1 (.cells #[.int .i64 kk, .string s, .bool bb] 79)).mono B0'.out.size); have y := HY.out _ (e1.out _ hb1 (.cells #[.int .i64 kk, .string s, .bool false] 79)); have y1 := y 1; have y2 := y 2; dsimp at y1 y2; clear y hb1)
        go_ret
        rw [hE.out]
        exact ⟨rfl, N1.out _⟩
    · have hE : Hid (E = 2) := Lib.hid (by rw [HE false (by rw [show decide (0 ≤ p ∧ p ≤ (n : Int)) = false from decide_eq_false (by omega)]; simp)]; rfl)
      clear HE hE2 hn
      have z := HY.out W0 (Below.refl _ _)
      have z0 := z 0
      dsimp at z0
      clear z B0
      by_cases h5 : p < 0
      · have h6 : ¬ p = 0 := by omega
        cases ab <;> by_cases h4 : n = 0
        all_goals (try subst h4)
        all_goals (try (have h4' : (0 : Int) < (n : Int) := by omega))
        all_goals
          (go_enter Tryd.func16, Tryd.ntmps16
           go_upto_region 1 with fail
           clear hW0
           go_wp2_with (go_at_call 39; refine RO.out.mono ?_; rintro e w1 ⟨rfl, hb1⟩; have N1 := Lib.hid fun bb => B0'.out.trans ((e1.out _ hb1 (.cells #[.int .i64 kk, .string s, .bool bb] 79)).mono B0'.out.size); have y := fun bb => HY.out _ (e1.out _ hb1 (.cells #[.int .i64 kk, .string s, .bool bb] 79)); have y1 := fun bb => y bb 1; have y2 := fun bb => y bb 2; dsimp at y1 y2; clear y hb1)
           go_ret
           rw [hE.out]
           exact ⟨rfl, N1.out _⟩)
      · have h6 : (n : Int) < p := by omega
        have h7 : ¬ p = 0 := by omega
        cases ab <;> by_cases h4 : n = 0
        all_goals (try subst h4)
        all_goals (try (have h4' : (0 : Int) < (n : Int) := by omega))
        all_goals
          (go_enter Tryd.func16, Tryd.ntmps16
           go_upto_region 1 with fail
           clear hW0
           go_wp2_with (go_at_call 39; refine RO.out.mono ?_; rintro e w1 ⟨rfl, hb1⟩; have N1 := Lib.hid fun bb => B0'.out.trans ((e1.out _ hb1 (.cells #[.int .i64 kk, .string s, .bool bb] 79)).mono B0'.out.size); have y := fun bb => HY.out _ (e1.out _ hb1 (.cells #[.int .i64 kk, .string s, .bool bb] 79)); have y1 := fun bb => y bb 1; have y2 := fun bb => y bb 2; dsimp at y1 y2; clear y hb1)
           go_ret
           rw [hE.out]
           exact ⟨rfl, N1.out _⟩)
    · have hE : Hid (E = se) := Lib.hid (by
        rw [hE2]
        refine HE _ ?_
        rw [show decide (0 ≤ p ∧ p ≤ (n : Int)) = true from decide_eq_true ⟨h2, h3⟩]
        rcases h1 with h1 | h1
        · rw [h1]; simp
        · rw [show (decide (n = 0) && decide (p = 0)) = true by rw [decide_eq_true h1.1, decide_eq_true h1.2]; rfl]; simp)
      clear HE hE2 hn
      have z := HY.out W0 (Below.refl _ _)
      have z0 := z 0
      dsimp at z0
      clear z B0
      have h5 : ¬ p < 0 := by omega
      have h6 : ¬ (n : Int) < p := by omega
      rcases h1 with rfl | ⟨h7, h8⟩
      · go_enter Tryd.func16, Tryd.ntmps16
        go_upto_region 1 with fail
        clear hW0
        go_wp2_with (first
          | (go_at_call 39; refine RO.out.mono ?_; rintro e w1 ⟨rfl, hb1⟩; have N1 := Lib.hid fun bb => B0'.out.trans ((e1.out _ hb1 (.cells #[.int .i64 kk, .string s, .bool bb] 79)).mono B0'.out.size); have y := fun bb => HY.out _ (e1.out _ hb1 (.cells #[.int .i64 kk, .string s, .bool bb] 79)); have y1 := fun bb => y bb 1; have y2 := fun bb => y bb 2; dsimp at y1 y2; have HB1 := Lib.hid fun bb => e1.out _ hb1 (.cells #[.int .i64 kk, .string s, .bool bb] 79); clear y hb1)
          | (go_at_call 49; refine (HSC.out _ (HB1.out _)).mono ?_; rintro e w2 ⟨rfl, hb2⟩; have N2 := Lib.hid (seqB (N1.out _) hb2); clear hb2))
        go_ret
        rw [hE.out]
        exact ⟨rfl, N2.out⟩
      · subst h7; subst h8
        cases ab
        all_goals
          (go_enter Tryd.func16, Tryd.ntmps16
           go_upto_region 1 with fail
           clear hW0
           go_wp2_with (first
             | (go_at_call 39; refine RO.out.mono ?_; rintro e w1 ⟨rfl, hb1⟩; have N1 := Lib.hid fun bb => B0'.out.trans ((e1.out _ hb1 (.cells #[.int .i64 kk, .string s, .bool bb] 79)).mono B0'.out.size); have y := fun bb => HY.out _ (e1.out _ hb1 (.cells #[.int .i64 kk, .string s, .bool bb] 79)); have y1 := fun bb => y bb 1; have y2 := fun bb => y bb 2; dsimp at y1 y2; have HB1 := Lib.hid fun bb => e1.out _ hb1 (.cells #[.int .i64 kk, .string s, .bool bb] 79); clear y hb1)
             | (go_at_call 49; refine (HSC.out _ (HB1.out _)).mono ?_; rintro e w2 ⟨rfl, hb2⟩; have N2 := Lib.hid (seqB (N1.out _) hb2); clear hb2))
           go_ret
           rw [hE.out]
           exact ⟨rfl, N2.out⟩)
end Go.Proofs.YtldblffhkokhlaaDoor
