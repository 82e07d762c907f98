/-
  Joined: E2 E3 Ky0 E4 Ky1 Sg1 Mk M0 Ow U1 U2 U3 Ap U4 U5 U6.
-/
import Derived.Test.YtgnhnalaakgamaaDoorJB03
import Derived.Test.YtgnhnalaakgamaaDoorJB04
import Derived.Test.YtgnhnalaakgamaaDoorJB06
import Derived.Laws.BytesArg
import Derived.Laws.OwnMore
import Derived.Laws.MakeOwn
import Derived.Deep.OwnRows
import Derived.OwnWalk
import Derived.Laws.StructEq
import Derived.Test.YtgnhnalaakgamaaDoorRows
import Derived.Test.YtgnhnalaakgamaaDoorShelf
import Derived.Lib.Small
import Derived.Lib.RuneCountTail
import Derived.Lib.OthersKept
import Derived.Handy
import Derived.WalkSpells
import Derived.WalkLawsBesides
import Derived.Laws.AppendOwnNone
set_option maxRecDepth 100000
set_option linter.unusedVariables false
set_option linter.unusedSimpArgs false
namespace Go.Proofs.YtgnhnalaakgamaaDoor
set_option linter.unusedVariables false
set_option linter.unusedSimpArgs false
open Go.RowKit
def u8s (l : List Int) : List Value := l.map (Value.int .u8)
structure EncInv (l : List Int) (a : Option Addr) (w : World) (k : Nat) (v : Value) (wr : World) : Prop where
  own : wr.ownsRow w.heap.size 5 1 v (encI (l.take k)).length (u8s (encI (l.take k)))
  bl : Below w.heap.size w wr
  le : k ≤ l.length
theorem enc_take (l : List Int) (k : Nat) (h : k < l.length) : encI (l.take (k + 1)) = encI (l.take k) ++ oneI (l.getD k 0) := by
  rw [List.take_add_one, encI_append, List.getElem?_eq_getElem h]
  simp [encI, List.getD, List.getElem?_eq_getElem h]
theorem enc_take_len (l : List Int) (k : Nat) (h : l.length ≤ 1000000) : (encI (l.take k)).length ≤ 4000000 := by
  have := encI_len (l.take k); simp at this; omega
theorem conv_own {w : World} {B : Nat} {v : Value} {l : List Int} (h : w.ownsRow B 5 1 v (encI l).length (u8s (encI l))) :
    ∀ dst, Tryd.prog.underlying dst = some .string → (convert 43 dst v).run Tryd.prog w = .ok (.string (encS l)) w := by
  intro dst hd
  rcases h.2 with ⟨rfl, h0⟩ | ⟨g, cap, cur, rfl, _, _, _⟩
  · have e : encI l = [] := List.eq_nil_of_length_eq_zero h0
    rw [run_convert_bytes_nil w _ 5 Tryd.underlying43 Tryd.underlying5 0 0 dst hd, encS, e]
    rfl
  · rw [run_convert_bytes_arg w _ 5 Tryd.underlying43 Tryd.underlying5 g 0 _ _ (encI l) rfl (fun i hi => ?_) dst hd]
    · rfl
    · have := h.cells (g := g) rfl i (.int .u8 ((encI l).getD i 0)) (by simp [u8s, List.getElem?_eq_getElem hi, List.getD])
      have hadd : (⟨g, 0, none⟩ : Addr).add i = ⟨g, 0 + i, none⟩ := by unfold Addr.add; split <;> simp_all
      rw [← hadd]; exact this
set_option maxRecDepth 100000 in
set_option maxHeartbeats 2000000 in
theorem encode_any (l : List Int) (a : Option Addr) (c : Nat) (w : World) (hl : l.length ≤ 1000000) (hr : Row w a l) :
    Calls Tryd.prog 63 #[.slice a l.length c] w fun e w' => e = .returned (.string (encS l)) ∧ Below w.heap.size w w' := by
  obtain ⟨i0, hi, hz0, hz1, hz2⟩ := info_parts infoByte
  have Hr := Lib.hid hr; clear hr
  go_enter Tryd.func63, Tryd.ntmps63
  go_wp2_with (at_make; refine wpList_make_own _ rfl _ _ 43 rfl w.heap.size 5 i0 (.int .u8 0) 1 Tryd.underlying43 hi hz0 hz1 _ _ _ l.length rfl rfl (by omega) ?b2 ?b3 (Nat.le_refl _) ?_)
  case b2 => rw [hz2]; omega
  case b3 => unfold maxLen; omega
  intro w0 hown0 hgrow0
  have hb0 : Below w.heap.size w w0 := (Below.refl _ _).grown hgrow0 (Nat.le_refl _) (fun k h => by cases h)
  go_wp2
  have hb8 := hb0.size
  go_loopw [3, 11] (fun v iv wr => ∃ k : Nat, iv = .int .i64 (k : Int) ∧ EncInv l a w k v wr) (fun _ iv _ => l.length - (intOf iv).toNat)
  case atStart => exact ⟨0, rfl, hown0, hb0, Nat.zero_le _⟩
  case round =>
    obtain ⟨k, rfl, hI⟩ := hrel
    have hbl := hI.bl; have hown := hI.own; have hle := hI.le; have hsz := hbl.size
    have hlen := enc_take_len l k hl
    clear hI
    by_cases hlt : k < l.length
    · obtain ⟨ba, oa, rfl, hca, hba⟩ := (Hr.out.below hbl) k hlt
      have hlti : (k : Int) < (l.length : Int) := by omega
      have hnext := enc_take l k hlt
      have P := fun w => point_any (l.getD k 0) w
      have S := fun w => stray_any (l.getD k 0) w
      have hp := ptB_iff (l.getD k 0)
      have hs := stB_iff (l.getD k 0)
      have e1 := fun h => oneI_pt (v := l.getD k 0) h
      have e2 := fun h => oneI_st (v := l.getD k 0) h
      have e3 := fun h => oneI_no (v := l.getD k 0) h
      generalize l.getD k 0 = x at *
      generalize encI (l.take k) = acc at *
      cases hpt : ptB x
      · rw [hpt] at P e3
        cases hst : stB x
        · rw [hst] at S e3
          have hn := hnext.trans (by rw [e3 rfl rfl, List.append_nil])
          have Hn := Lib.hid hn
          replace P := Lib.hid P; replace S := Lib.hid S
          clear hn hnext e1 e2 e3 hp hs hpt hst
          go_wp2_with (first
            | (go_at_call 77; refine (P.out _).mono ?_; rintro e w1 ⟨rfl, rfl⟩)
            | (go_at_call 79; refine (S.out _).mono ?_; rintro e w1 ⟨rfl, rfl⟩))
          go_roundw
          case rel => exact ⟨k + 1, by go_num, by rw [Hn.out]; exact hown, hbl, by omega⟩
          case measure => simp [intOf]; omega
        · rw [hst] at S
          have hx := hs.1 hst
          have hn := hnext.trans (by rw [e2 hst])
          have Hn := Lib.hid hn
          replace P := Lib.hid P; replace S := Lib.hid S
          clear hn hnext e1 e2 e3 hp hs hpt hst
          go_wp2_with (first
            | (go_at_call 77; refine (P.out _).mono ?_; rintro e w1 ⟨rfl, rfl⟩)
            | (go_at_call 79; refine (S.out _).mono ?_; rintro e w1 ⟨rfl, rfl⟩)
            | (at_builtin; refine wpList_append_own _ rfl _ _ 43 rfl w.heap.size 5 i0 (.int .u8 0) 1 1 Tryd.underlying43 hi hz0 hz1 hz2 rfl (by decide) _ _ _ rfl (hown.alloc _) ⟨w1.heap.size, 0, none⟩ 1 1 [.int .u8 (x - 1114112)] rfl rfl ?c1 ?c2 ?c3 ?c4 ?c5 ?_))
          case c1 =>
            intro j u hj
            match j, hj with
            | 0, hj => simp at hj; subst hj; exact cell_new w1 _ _
          case c2 => intro u hu; simp at hu; subst hu; rfl
          case c3 => unfold maxLen; omega
          case c4 => omega
          case c5 => have := (below_alloc w1 (Obj.cells #[Value.int IntKind.u8 (x - 1114112)] 5)).size; omega
          intro v' w3 hown3 hgrow3 _
          have hbl3 : Below w.heap.size w w3 := (hbl.alloc hsz _).grown hgrow3 (by have := (below_alloc w1 (Obj.cells #[Value.int IntKind.u8 (x - 1114112)] 5)).size; omega) (fun k hk => (hown.lt k hk).1)
          have hown3' : w3.ownsRow w.heap.size 5 1 v' (encI (l.take (k + 1))).length (u8s (encI (l.take (k + 1)))) := by
            rw [Hn.out]; simpa [u8s] using hown3
          clear hown3 hgrow3 hown
          go_wp2
          go_roundw
          case rel => exact ⟨k + 1, by go_num, hown3', hbl3, by omega⟩
          case measure => simp [intOf]; omega
      · rw [hpt] at P
        have hx := hp.1 hpt
        have hn := hnext.trans (by rw [e1 hpt])
        have Hn := Lib.hid hn
        have hx2 : 0 ≤ x ∧ x ≤ 1114111 := by omega
        replace P := Lib.hid P
        clear hn hnext e1 e2 e3 hp hs hpt hx S
        go_wp2_with (first
          | (go_at_call 77; refine (P.out _).mono ?_; rintro e w1 ⟨rfl, rfl⟩)
          | (go_at_call 78; refine (Tryd.utf8_AppendRune_plain w.heap.size _ _ _ x (by omega) (by omega) _ hown (by omega) (by omega)).mono ?_; rintro e w2 ⟨v2, rfl, hown2, o, hg2⟩)
          | fail)
        have hbl3 : Below w.heap.size w w2 := (hbl.alloc hsz o).grown hg2 (by have := (below_alloc w1 o).size; omega) (fun k hk => (hown.lt k hk).1)
        have hown3' : w2.ownsRow w.heap.size 5 1 v2 (encI (l.take (k + 1))).length (u8s (encI (l.take (k + 1)))) := by
          rw [Hn.out]; simpa [u8s, Lib.runeCells] using hown2
        clear hown2 hg2 hown
        go_wp2
        go_roundw
        case rel => exact ⟨k + 1, by go_num, hown3', hbl3, by omega⟩
        case measure => simp [intOf]; omega
    · obtain rfl : k = l.length := by omega
      rw [List.take_length] at hown
      have hcv := conv_own hown
      clear hown
      go_wp2
      go_ret
      exact ⟨rfl, hbl⟩
end Go.Proofs.YtgnhnalaakgamaaDoor
namespace Go.Proofs.YtgnhnalaakgamaaDoor
open Go.RowKit
theorem conv_lit {w : World} {g k c : Nat} (l : List Int) (hl : k = l.length) (h : ∀ i, i < k → w.cell? ⟨g, 0 + i, none⟩ = some (.int .u8 (l.getD i 0))) :
    ∀ dst, Tryd.prog.underlying dst = some .string → (convert 43 dst (.slice (some ⟨g, 0, none⟩) k c)).run Tryd.prog w = .ok (.string (txt l)) w := by
  intro dst hd
  rw [run_convert_bytes_arg w _ 5 Tryd.underlying43 Tryd.underlying5 g 0 _ _ l hl.symm h dst hd]
  rfl
theorem conv_new (w : World) (l : List Int) (n : Nat) (hn : n = l.length) :
    ∀ dst, Tryd.prog.underlying dst = some .string → (convert 43 dst (.slice (some ⟨w.heap.size, 0, none⟩) n n)).run Tryd.prog (w.alloc (Obj.cells (l.map (Value.int .u8)).toArray 5)) = .ok (.string (txt l)) (w.alloc (Obj.cells (l.map (Value.int .u8)).toArray 5)) := by
  refine conv_lit l hn (fun i hi => ?_)
  have h : (w.alloc (Obj.cells (l.map (Value.int .u8)).toArray 5)).heap[w.heap.size]? = some (Obj.cells (l.map (Value.int .u8)).toArray 5) := Array.getElem?_push_size
  have hi' : i < l.length := by omega
  simp only [World.cell?, h, Nat.zero_add]
  simp [List.getElem?_eq_getElem hi', List.getD]
end Go.Proofs.YtgnhnalaakgamaaDoor
set_option linter.unusedVariables false
set_option linter.unusedSimpArgs false
namespace Go.Proofs.YtgnhnalaakgamaaDoor
open Go.RowKit
def lnB (v : Int) : Bool := decide (v = 10 ∨ v = 13 ∨ v = 27)
def ctB (v : Int) : Bool := decide (0 ≤ v ∧ v ≤ 31) && !lnB v
theorem lnB_yes {v : Int} (h : v = 10 ∨ v = 13 ∨ v = 27) : lnB v = true := decide_eq_true h
theorem lnB_no {v : Int} (h : ¬ (v = 10 ∨ v = 13 ∨ v = 27)) : lnB v = false := decide_eq_false h
theorem lineByte_any (v : Int) (w : World) : Calls Tryd.prog 69 #[.int .i64 v] w fun e w' => e = .returned (.bool (lnB v)) ∧ Below w.heap.size w w' := by
  by_cases h1 : v = 10
  · rw [lnB_yes (Or.inl h1)]; subst h1
    go_enter Tryd.func69, Tryd.ntmps69
    go_wp2
    go_ret
    exact ⟨rfl, Below.refl _ _⟩
  by_cases h2 : v = 13
  · rw [lnB_yes (Or.inr (Or.inl h2))]; subst h2
    go_enter Tryd.func69, Tryd.ntmps69
    go_wp2
    go_ret
    exact ⟨rfl, Below.refl _ _⟩
  by_cases h3 : v = 27
  · rw [lnB_yes (Or.inr (Or.inr h3))]; subst h3
    go_enter Tryd.func69, Tryd.ntmps69
    go_wp2
    go_ret
    exact ⟨rfl, Below.refl _ _⟩
  · rw [lnB_no (by omega)]
    go_enter Tryd.func69, Tryd.ntmps69
    go_wp2
    go_ret
    refine ⟨?_, Below.refl _ _⟩
    show Ending.returned (.bool (v == 10 || v == 13 || v == 27)) = _
    rw [show (v == 10 || v == 13 || v == 27) = false by simp [h1, h2, h3]]
end Go.Proofs.YtgnhnalaakgamaaDoor
namespace Go.Proofs.YtgnhnalaakgamaaDoor
open Go.RowKit
theorem txt_append (a b : List Int) : txt (a ++ b) = txt a ++ txt b := by
  apply ByteArray.ext
  simp [txt]
theorem oneI_wrong {v : Int} (h : rightB v = false) : oneI v = [] := by
  unfold rightB at h
  rw [Bool.or_eq_false_iff] at h
  exact oneI_no h.1 h.2
end Go.Proofs.YtgnhnalaakgamaaDoor
set_option linter.unusedVariables false
set_option linter.unusedSimpArgs false
namespace Go.Proofs.YtgnhnalaakgamaaDoor
open Go.RowKit
/-- A key: kind, value, text, cut. -/
abbrev Ky := Int × Int × ByteArray × Bool
abbrev KRow := Int × Int × List UInt8 × List UInt8
/-- The keys of one name: kind, value, name, bytes. -/
def kTab : List KRow := [
  (4, 13, [82, 69, 84], [13]),
  (4, 10, [76, 70, 68], [10]),
  (5, 0, [69, 83, 67], [27]),
  (6, 0, [68, 69, 76], [127]),
  (7, 0, [85, 80], [27, 91, 65]),
  (8, 0, [68, 79, 87, 78], [27, 91, 66]),
  (9, 0, [82, 73, 71, 72, 84], [27, 91, 67]),
  (10, 0, [76, 69, 70, 84], [27, 91, 68]),
  (11, 0, [72, 79, 77, 69], [27, 91, 72]),
  (12, 0, [69, 78, 68], [27, 91, 70]),
  (13, 0, [68, 69, 76, 69, 84, 69], [27, 91, 51, 126]),
  (14, 0, [80, 71, 85, 80], [27, 91, 53, 126]),
  (14, 1, [80, 71, 68, 78], [27, 91, 54, 126])]
def kr0 : KRow := (0, 0, [], [])
def kIs (kind v : Int) (r : KRow) : Bool := r.1 == kind && r.2.1 == v
def kFind (kind v : Int) : Option KRow := kTab.find? (kIs kind v)
def kRowOf (kind v : Int) : KRow := (kFind kind v).getD kr0
def kmB (kind v : Int) : Bool :=
  if kind = 1 then decide (32 ≤ v) && decide (v ≠ 127) && rightB v
  else if kind = 2 then ctB v
  else if kind = 3 then decide (0 ≤ v ∧ v < 128) && !lnB v
  else (kFind kind v).isSome
def keyB (k : Ky) : Bool :=
  if k.1 = 15 then decide (k.2.1 = 0) && decide (k.2.2.1.size ≤ 65536)
  else decide (k.2.2.1.size = 0) && !k.2.2.2 && kmB k.1 k.2.1
/-- What a sign is named. -/
def sgN (v : Int) : List UInt8 := if 32 < v ∧ v < 127 ∧ v ≠ 60 then [v.toNat.toUInt8] else 60 :: (hexN v 1 ++ [62])
def ctN (v : Int) : List UInt8 := if 1 ≤ v ∧ v ≤ 26 then [67, 45, (v + 96).toNat.toUInt8] else [67, 45, (v + 64).toNat.toUInt8]
def hx2 (l : List UInt8) : List UInt8 := l.flatMap fun b => hexN (b.toNat : Int) 2
def psN (t : List UInt8) (cut : Bool) : List UInt8 := 80 :: 45 :: (hx2 t ++ if cut then [33] else [])
def nmN (k : Ky) : List UInt8 :=
  if k.1 = 1 then sgN k.2.1
  else if k.1 = 2 then ctN k.2.1
  else if k.1 = 3 then 77 :: 45 :: (if 32 ≤ k.2.1 then sgN k.2.1 else ctN k.2.1)
  else if k.1 = 15 then psN k.2.2.1.data.toList k.2.2.2
  else (kRowOf k.1 k.2.1).2.2.1
/-- A key's bytes. -/
def byN (k : Ky) : List UInt8 :=
  if k.1 = 1 ∨ k.1 = 2 then (txt (oneI k.2.1)).data.toList
  else if k.1 = 3 then 27 :: (txt (oneI k.2.1)).data.toList
  else if k.1 = 15 then [27, 91, 50, 48, 48, 126] ++ k.2.2.1.data.toList ++ [27, 91, 50, 48, 49, 126]
  else (kRowOf k.1 k.2.1).2.2.2
/-- What a key is, typed as it is; below 0: nothing. -/
def vlN (k : Ky) : Int := if k.1 = 1 ∨ k.1 = 2 ∨ k.1 = 4 then k.2.1 else if k.1 = 5 then 27 else if k.1 = 6 then 127 else -1
/-- Which value is named so; -1: none. -/
def sgOf (l : List UInt8) : Int :=
  if l.length = 1 then ((l.headD 0).toNat : Int)
  else if l.length < 3 ∨ l.headD 0 ≠ 60 then -1
  else if uhE ((l.drop 1).take (l.length - 2)) = 0 then uhR ((l.drop 1).take (l.length - 2)) else -1
def ctFrom (l : List UInt8) : Nat → Nat → Int
  | 0, _ => -1
  | f + 1, v => if ctN v = l then v else ctFrom l f (v + 1)
def ctOf (l : List UInt8) : Int := ctFrom l 32 0
theorem kzero {t : ByteArray} (h : t.size = 0) : t = ⟨#[]⟩ := by
  cases t with | mk a => exact congrArg ByteArray.mk (Array.eq_empty_of_size_eq_zero h)
def k0 : Ky := (0, 0, ⟨#[]⟩, false)
/-- The bytes that pairs of digits tell; none: one tells none. -/
def bpOf (l : List UInt8) : Nat → Nat → Option (List UInt8)
  | 0, _ => some []
  | f + 1, i => if uhE ((l.drop (2 * i)).take 2) = 0 then (bpOf l f (i + 1)).map fun r => (uhR ((l.drop (2 * i)).take 2)).toNat.toUInt8 :: r else none
def psCut (l : List UInt8) : List UInt8 × Bool := if l.getLast? = some 33 then (l.dropLast, true) else (l, false)
def psOf (l : List UInt8) : Ky :=
  match bpOf (psCut l).1 ((psCut l).1.length / 2) 0 with
  | none => k0
  | some t => (15, 0, ⟨t.toArray⟩, (psCut l).2)
def kNamed (l : List UInt8) : Option KRow := kTab.find? fun r => r.2.2.1 == l
def kyOf (l : List UInt8) : Ky :=
  match kNamed l with
  | some r => (r.1, r.2.1, ⟨#[]⟩, false)
  | none =>
    if [80, 45] <+: l then psOf (l.drop 2)
    else if [77, 45, 67, 45] <+: l then (3, ctOf (l.drop 2), ⟨#[]⟩, false)
    else if [77, 45] <+: l then (3, sgOf (l.drop 2), ⟨#[]⟩, false)
    else if [67, 45] <+: l then (2, ctOf l, ⟨#[]⟩, false)
    else (1, sgOf l, ⟨#[]⟩, false)
/-- The key of a name, and the error. -/
def prOk (l : List UInt8) : Bool := keyB (kyOf l) && nmN (kyOf l) == l
def prK (l : List UInt8) : Ky := if prOk l then kyOf l else k0
def prE (l : List UInt8) : Int := if prOk l then 0 else 6
theorem right_le {v : Int} (h : rightB v = true) : 0 ≤ v ∧ v ≤ 1114367 := by
  unfold rightB at h; rw [Bool.or_eq_true, ptB_iff, stB_iff] at h; omega
theorem hexN_short (v : Int) (h0 : 0 ≤ v) (h : v ≤ 1114367) : (hexN v 1).length ≤ 6 := by
  have e : ∀ n : Nat, n < 16777216 → (tell 16 20 n 1).length ≤ 6 := by
    intro n hn
    rw [show (20 : Nat) = 14 + 6 by rfl]
    have key : ∀ k f n : Nat, n < 16 ^ k → 1 ≤ k → (tell 16 (f + k) n 1).length ≤ k ∧ (tell 16 (f + k) n 0).length ≤ k := by
      intro k
      induction k with
      | zero => intro f n _ h; omega
      | succ k ih =>
        intro f n hn _
        by_cases hk : k = 0
        · subst hk
          have h16 : n < 16 := by simpa using hn
          have hd : n / 16 = 0 := by omega
          have z : ∀ f, tell 16 f 0 0 = [] := by intro f; cases f <;> simp [tell]
          constructor
          · show (tell 16 (f + 0 + 1) n 1).length ≤ 1
            rw [tell, if_neg (by omega), hd]; simp [z]
          · show (tell 16 (f + 0 + 1) n 0).length ≤ 1
            rw [tell]; split
            · simp
            · rw [hd]; simp [z]
        · have hq : n / 16 < 16 ^ k := by rw [Nat.pow_succ] at hn; omega
          have ⟨h1, h2⟩ := ih f (n / 16) hq (by omega)
          constructor
          · show (tell 16 (f + k + 1) n 1).length ≤ k + 1
            rw [tell, if_neg (by omega), List.length_append]; simp; exact h2
          · show (tell 16 (f + k + 1) n 0).length ≤ k + 1
            rw [tell]; split
            · simp
            · rw [List.length_append]; simp; exact h2
    exact (key 6 14 n hn (by omega)).1
  unfold hexN
  rw [show (max (1 : Int) 1).toNat = 1 by omega]
  exact e v.toNat (by omega)
theorem u8_of (v : Int) (h0 : 0 ≤ v) (h1 : v < 256) : ((v.toNat.toUInt8).toNat : Int) = v := by
  rw [u8_nat h0 h1]; omega
theorem sgOf_sgN (v : Int) (h0 : 32 ≤ v) (h1 : v ≤ 1114367) : sgOf (sgN v) = v := by
  unfold sgN
  split
  · rename_i h
    unfold sgOf
    rw [if_pos (show [v.toNat.toUInt8].length = 1 from rfl)]
    exact u8_of v (by omega) (by omega)
  · have hn := hexN_ne v 1
    have hl := hexN_short v (by omega) h1
    have hp : 0 < (hexN v 1).length := List.length_pos_iff.2 hn
    have ⟨u1, u2⟩ := uh_hex v 1 (by omega) (by omega) (by omega)
    have e : (((60 : UInt8) :: (hexN v 1 ++ [62])).drop 1).take (((60 : UInt8) :: (hexN v 1 ++ [62])).length - 2) = hexN v 1 := by
      simp
    unfold sgOf
    rw [e, if_neg (by simp <;> omega), if_neg (by simp <;> omega), u1, u2, if_pos rfl]
theorem ctOf_ctN (v : Int) (h0 : 0 ≤ v) (h1 : v < 32) : ctOf (ctN v) = v := by
  have key : ∀ j : Fin 32, ctOf (ctN ((j : Nat) : Int)) = ((j : Nat) : Int) := by decide
  have := key ⟨v.toNat, by omega⟩
  rwa [show (((⟨v.toNat, by omega⟩ : Fin 32) : Nat) : Int) = v by simp; omega] at this
theorem hex2 (b : UInt8) : (hexN (b.toNat : Int) 2).length = 2 ∧ uhE (hexN (b.toNat : Int) 2) = 0 ∧ uhR (hexN (b.toNat : Int) 2) = b.toNat ∧ (hexN (b.toNat : Int) 2).getLast? ≠ some 33 := by
  have hb : b.toNat < 256 := b.toNat_lt
  have key : ∀ n : Fin 256, (tell 16 20 n 2).length = 2 ∧ (tell 16 20 n 2).getLast? ≠ some 33 := by decide
  have hx : hexN (b.toNat : Int) 2 = tell 16 20 b.toNat 2 := by
    unfold hexN; rw [show (max (2 : Int) 1).toNat = 2 by omega]; rfl
  have ⟨k1, k2⟩ := key ⟨b.toNat, hb⟩
  have ⟨u1, u2⟩ := uh_hex (b.toNat : Int) 2 (by omega) (by omega) (by rw [hx]; rw [show (tell 16 20 b.toNat 2).length = 2 from k1]; omega)
  exact ⟨by rw [hx]; exact k1, u2, u1, by rw [hx]; exact k2⟩
theorem hx2_len (t : List UInt8) : (hx2 t).length = 2 * t.length := by
  induction t with
  | nil => rfl
  | cons b t ih => show (hexN (b.toNat : Int) 2 ++ hx2 t).length = _; rw [List.length_append, ih, (hex2 b).1]; simp; omega
theorem bpOf_hx2 (p t : List UInt8) : bpOf (hx2 (p ++ t)) t.length p.length = some t := by
  induction t generalizing p with
  | nil => rfl
  | cons b t ih =>
    have e : ((hx2 (p ++ b :: t)).drop (2 * p.length)).take 2 = hexN (b.toNat : Int) 2 := by
      have h1 : hx2 (p ++ b :: t) = hx2 p ++ (hexN (b.toNat : Int) 2 ++ hx2 t) := by unfold hx2; rw [List.flatMap_append]; rfl
      rw [h1, ← hx2_len p, List.drop_left, show 2 = (hexN (b.toNat : Int) 2).length from (hex2 b).1.symm, List.take_left]
    have h := ih (p ++ [b])
    rw [show p ++ [b] ++ t = p ++ b :: t by simp, show (p ++ [b]).length = p.length + 1 by simp] at h
    show (if uhE _ = 0 then _ else _) = _
    rw [e, if_pos (hex2 b).2.1, h, (hex2 b).2.2.1]
    have : ((b.toNat : Int)).toNat.toUInt8 = b := by simp
    simp [this]
theorem hx2_last (t : List UInt8) : (hx2 t).getLast? ≠ some 33 := by
  induction t with
  | nil => decide
  | cons b t ih =>
    show (hexN (b.toNat : Int) 2 ++ hx2 t).getLast? ≠ some 33
    rw [List.getLast?_append]
    cases h : (hx2 t).getLast? with
    | none => simpa using (hex2 b).2.2.2
    | some x => rw [h] at ih; simpa using ih
theorem psOf_psN (t : List UInt8) (cut : Bool) : psOf (hx2 t ++ if cut then [33] else []) = (15, 0, ⟨t.toArray⟩, cut) := by
  have e : psCut (hx2 t ++ if cut then [33] else []) = (hx2 t, cut) := by
    unfold psCut
    cases cut with
    | false => simp only [if_neg (show ¬ (false = true) by decide), List.append_nil]; rw [if_neg (hx2_last t)]
    | true => simp
  have hb := bpOf_hx2 [] t
  have hl : (hx2 t).length / 2 = t.length := by rw [hx2_len]; omega
  unfold psOf
  rw [e]
  dsimp only
  rw [hl, show bpOf (hx2 t) t.length 0 = some t from hb]
theorem kNamed_of {l : List UInt8} (h : ∀ r ∈ kTab, r.2.2.1 ≠ l) : kNamed l = none := by
  unfold kNamed
  rw [List.find?_eq_none]
  intro r hr; simpa using h r hr
theorem kTab_heads (r : KRow) (h : r ∈ kTab) : 2 ≤ r.2.2.1.length ∧ r.2.2.1.head? ≠ some 60 ∧ r.2.2.1.head? ≠ some 67 ∧ r.2.2.1.head? ≠ some 77 ∧ r.2.2.1[1]? ≠ some 45 := by
  revert r; decide
theorem find_ok {kind v : Int} {r : KRow} (h : kFind kind v = some r) : r ∈ kTab ∧ r.1 = kind ∧ r.2.1 = v := by
  have h1 := List.mem_of_find?_eq_some h
  have h2 := List.find?_some h
  unfold kIs at h2
  simp at h2
  exact ⟨h1, h2⟩
theorem named_back (r : KRow) (h : r ∈ kTab) : kNamed r.2.2.1 = some r := by revert r; decide
theorem ctN_cons (v : Int) : ∃ c, ctN v = [67, 45, c] := by unfold ctN; split <;> exact ⟨_, rfl⟩
theorem sgN_form (v : Int) : (∃ c, sgN v = [c]) ∨ ∃ l, sgN v = 60 :: l ∧ 2 ≤ l.length := by
  unfold sgN; split
  · exact Or.inl ⟨_, rfl⟩
  · refine Or.inr ⟨_, rfl, ?_⟩
    have := List.length_pos_iff.2 (hexN_ne v 1)
    simp; omega
theorem kyOf_nmN (k : Ky) (h : keyB k = true) : kyOf (nmN k) = k := by
  obtain ⟨kind, v, t, c⟩ := k
  by_cases h15 : kind = 15
  · subst h15
    unfold keyB at h
    dsimp only at h
    rw [if_pos rfl] at h
    simp at h
    obtain ⟨rfl, _⟩ := h
    have e : nmN (15, 0, t, c) = 80 :: 45 :: (hx2 t.data.toList ++ if c then [33] else []) := rfl
    rw [e]
    unfold kyOf
    rw [kNamed_of (fun r hr he => (kTab_heads r hr).2.2.2.2 (by rw [he]; rfl))]
    dsimp only
    rw [if_pos (by exact ⟨_, rfl⟩)]
    have e2 : List.drop 2 (80 :: 45 :: (hx2 t.data.toList ++ if c = true then [33] else [])) = hx2 t.data.toList ++ if c = true then [33] else [] := rfl
    rw [e2, psOf_psN]
  · unfold keyB at h
    dsimp only at h
    rw [if_neg h15] at h
    simp at h
    obtain ⟨⟨ht, rfl⟩, hm⟩ := h
    obtain rfl : t = ⟨#[]⟩ := ht
    by_cases h1 : kind = 1
    · subst h1
      unfold kmB at hm
      rw [if_pos rfl] at hm
      simp at hm
      have hr := right_le hm.2
      have e : nmN (1, v, ⟨#[]⟩, false) = sgN v := rfl
      rw [e]
      have hs := sgOf_sgN v hm.1.1 hr.2
      unfold kyOf
      rcases sgN_form v with ⟨x, hx⟩ | ⟨l, hx, hl⟩
      · rw [kNamed_of (fun r hr he => by have := (kTab_heads r hr).1; rw [he, hx] at this; simp at this)]
        dsimp only
        rw [hx] at hs ⊢
        rw [if_neg (fun ⟨s, h⟩ => by simp at h), if_neg (fun ⟨s, h⟩ => by simp at h), if_neg (fun ⟨s, h⟩ => by simp at h), if_neg (fun ⟨s, h⟩ => by simp at h), hs]
      · rw [kNamed_of (fun r hr he => (kTab_heads r hr).2.1 (by rw [he, hx]; rfl))]
        dsimp only
        rw [hx] at hs ⊢
        rw [if_neg (fun ⟨s, h⟩ => by simp at h), if_neg (fun ⟨s, h⟩ => by simp at h), if_neg (fun ⟨s, h⟩ => by simp at h), if_neg (fun ⟨s, h⟩ => by simp at h), hs]
    by_cases h2 : kind = 2
    · subst h2
      unfold kmB at hm
      rw [if_neg (by decide), if_pos rfl] at hm
      have hv : 0 ≤ v ∧ v ≤ 31 := by unfold ctB at hm; simp at hm; exact hm.1
      have e : nmN (2, v, ⟨#[]⟩, false) = ctN v := rfl
      rw [e]
      have hs := ctOf_ctN v hv.1 (by omega)
      obtain ⟨x, hx⟩ := ctN_cons v
      unfold kyOf
      rw [kNamed_of (fun r hr he => (kTab_heads r hr).2.2.1 (by rw [he, hx]; rfl))]
      dsimp only
      rw [hx] at hs ⊢
      rw [if_neg (fun ⟨s, h⟩ => by simp at h), if_neg (fun ⟨s, h⟩ => by simp at h), if_neg (fun ⟨s, h⟩ => by simp at h), if_pos (by exact ⟨_, rfl⟩), hs]
    by_cases h3 : kind = 3
    · subst h3
      unfold kmB at hm
      rw [if_neg (by decide), if_neg (by decide), if_pos rfl] at hm
      have hv : 0 ≤ v ∧ v < 128 := by simp at hm; exact hm.1
      have e : nmN (3, v, ⟨#[]⟩, false) = 77 :: 45 :: (if 32 ≤ v then sgN v else ctN v) := rfl
      rw [e]
      unfold kyOf
      rw [kNamed_of (fun r hr he => (kTab_heads r hr).2.2.2.1 (by rw [he]; rfl))]
      dsimp only
      rw [if_neg (fun ⟨s, h⟩ => by simp at h)]
      by_cases hb : 32 ≤ v
      · rw [if_pos hb]
        have hs := sgOf_sgN v hb (by omega)
        rw [if_neg (fun ⟨s, h⟩ => by
          rcases sgN_form v with ⟨x, hx⟩ | ⟨l, hx, hl⟩
          · rw [hx] at h; simp at h
          · rw [hx] at h; simp at h), if_pos (by exact ⟨_, rfl⟩)]
        show (3, sgOf (sgN v), _, _) = _
        rw [hs]
      · rw [if_neg hb]
        have hs := ctOf_ctN v hv.1 (by omega)
        obtain ⟨x, hx⟩ := ctN_cons v
        rw [if_pos (by rw [hx]; exact ⟨[x], rfl⟩)]
        show (3, ctOf (ctN v), _, _) = _
        rw [hs]
    · unfold kmB at hm
      rw [if_neg h1, if_neg h2, if_neg h3] at hm
      obtain ⟨r, hr⟩ := Option.isSome_iff_exists.1 hm
      have ⟨hmem, e1, e2⟩ := find_ok hr
      have e : nmN (kind, v, ⟨#[]⟩, false) = r.2.2.1 := by
        show (if kind = 1 then _ else if kind = 2 then _ else if kind = 3 then _ else if kind = 15 then _ else _) = _
        rw [if_neg h1, if_neg h2, if_neg h3, if_neg h15]
        show (kRowOf kind v).2.2.1 = _
        unfold kRowOf; rw [hr]; rfl
      rw [e]
      unfold kyOf
      rw [named_back r hmem]
      dsimp only
      rw [e1, e2]
theorem parse_name (k : Ky) (h : keyB k = true) : prK (nmN k) = k ∧ prE (nmN k) = 0 := by
  have e := kyOf_nmN k h
  have ok : prOk (nmN k) = true := by unfold prOk; rw [e, h]; simp
  unfold prK prE
  rw [ok]
  exact ⟨by rw [if_pos rfl, e], rfl⟩
theorem parse_cases (l : List UInt8) : (prE l = 0 ∧ keyB (prK l) = true ∧ nmN (prK l) = l) ∨ (prE l = 6 ∧ prK l = k0) := by
  cases h : prOk l with
  | true =>
    left
    unfold prE prK
    rw [h]
    unfold prOk at h
    simp at h
    exact ⟨rfl, h.1, h.2⟩
  | false => right; unfold prE prK; rw [h]; exact ⟨rfl, rfl⟩
end Go.Proofs.YtgnhnalaakgamaaDoor
set_option linter.unusedVariables false
set_option linter.unusedSimpArgs false
namespace Go.Proofs.YtgnhnalaakgamaaDoor
open Go.RowKit
theorem blk_alloc {w : World} {g : Nat} {o : Obj} (h : w.heap[g]? = some o) (o' : Obj) : (w.alloc o').heap[g]? = some o :=
  (Below.heap_alloc w o' g (by
    rcases Nat.lt_or_ge g w.heap.size with h1 | h1
    · exact h1
    · rw [Array.getElem?_eq_none h1] at h; cases h)).trans h
theorem blk_set {w : World} {g : Nat} {cs : Array Value} {t : TypeId} {f : Nat × Nat} (h : w.heap[g]? = some (.cells cs t f)) (i : Nat) (u : Value) : (w.setCell ⟨g, i, none⟩ u).heap[g]? = some (.cells (cs.setIfInBounds i u) t f) := by
  simp [World.setCell, Array.getElem?_modify, h]
theorem blk_far {w : World} {g : Nat} {o : Obj} {p : Addr} (h : w.heap[g]? = some o) (hp : g ≠ p.block) (u : Value) : (w.setCell p u).heap[g]? = some o := (Below.heap_setCell w p u g hp).trans h
theorem blk_lt {w : World} {g : Nat} {o : Obj} (h : w.heap[g]? = some o) : g < w.heap.size := by
  rcases Nat.lt_or_ge g w.heap.size with h1 | h1
  · exact h1
  · rw [Array.getElem?_eq_none h1] at h; cases h
theorem blk_below {w w' : World} {g : Nat} {o : Obj} (h : w.heap[g]? = some o) (hb : Below w.heap.size w w') : w'.heap[g]? = some o := (hb.block g (blk_lt h)).trans h
theorem ownsRow_pos {w : World} {base : Nat} {e : TypeId} {size : Nat} {v : Value} {n : Nat} {xs : List Value} (h : w.ownsRow base e size v n xs) (hn : 0 < n) : ∃ g cap, v = .slice (some ⟨g, 0, none⟩) n cap := by
  rcases h.2 with ⟨_, h0⟩ | ⟨g, cap, _, rfl, _⟩
  · omega
  · exact ⟨g, cap, rfl⟩
/-- May a sign be? -/
def sgR (v l : Int) : Bool := decide (0 ≤ l) && (decide (l ≤ 5) && rightB v)
theorem getD_mem {l : List (Int × Int)} {k : Nat} (h : k < l.length) : l.getD k (0, 0) ∈ l := by
  rw [List.getD, List.getElem?_eq_getElem h]; exact List.getElem_mem h
/-- May all signs be? -/
def sgC (l : List (Int × Int)) : Bool := l.all fun p => sgR p.1 p.2
def sgE (l : List (Int × Int)) : Int := if sgC l = true then 0 else 2
theorem sgE_no {l : List (Int × Int)} (h : sgC l = false) : sgE l = 2 := by unfold sgE; rw [h]; rfl
theorem sgE_yes {l : List (Int × Int)} (h : sgC l = true) : sgE l = 0 := by unfold sgE; rw [h]; rfl
end Go.Proofs.YtgnhnalaakgamaaDoor
set_option linter.unusedVariables false
set_option linter.unusedSimpArgs false
namespace Go.Proofs.YtgnhnalaakgamaaDoor
open Go.RowKit
/-- A make of elements of several cells. -/
theorem make_rowN {P : Program} (t e : TypeId) (i : TypeInfo) (z : Value) (ht : P.underlying t = some (.slice e)) (hi : P.info? e = some i) (hz : i.zero = some z)
    (n : Nat) (hb : i.bytes * n ≤ 281474976710656) (h63 : n ≤ 9223372036854775807) (w : World) :
    (Instr.makeSlice t (.int .i64 (n : Int)) (.int .i64 (n : Int))).run P w = .ok (.slice (some ⟨w.heap.size, 0, none⟩) n n) (w.alloc (.cells (madeCells z.cells (n * i.size)) e)) := by
  have h := run_make (P := P) w t e i z ht hi hz .i64 .i64 (n : Int) (n : Int) (by omega) (by omega) (by
    have : ((i.bytes * n : Nat) : Int) ≤ 281474976710656 := by omega
    rwa [Int.natCast_mul] at this) (by omega)
  simpa only [Int.toNat_natCast] using h
theorem made_signs (n : Nat) : madeCells #[.int .i64 0, .int .i64 0] (n * 2) = sRow (List.replicate n (0, 0)) := by
  apply Array.ext
  · simp [madeCells, sRow, List.length_flatMap]
  · intro i h1 h2
    simp only [madeCells, Array.getElem_map, Array.getElem_range]
    have hi : i < n * 2 := by simpa [madeCells] using h1
    have hlt : i / 2 < (List.replicate n ((0 : Int), (0 : Int))).length := by simp; omega
    have h := sRow_at (List.replicate n ((0 : Int), (0 : Int))) (i / 2) hlt
    have hz : (List.replicate n ((0 : Int), (0 : Int))).getD (i / 2) (0, 0) = (0, 0) := by
      rw [List.getD, List.getElem?_replicate]; split <;> rfl
    rw [hz] at h
    have e : (sRow (List.replicate n ((0 : Int), (0 : Int))))[i]? = some (.int .i64 0) := by
      rw [sRow, List.getElem?_toArray]
      rcases Nat.mod_two_eq_zero_or_one i with hm | hm
      · have : i / 2 * 2 = i := by omega
        rw [this] at h; exact h.1
      · have : i / 2 * 2 + 1 = i := by omega
        rw [this] at h; exact h.2
    have e2 := Array.getElem?_eq_getElem h2
    rw [e] at e2
    injection e2 with e2
    rw [← e2]
    rcases Nat.mod_two_eq_zero_or_one i with hm | hm <;> simp [hm]
theorem sRow_set (L : List (Int × Int)) (k : Nat) (p : Int × Int) (h : k < L.length) : ((sRow L).setIfInBounds (k * 2) (.int .i64 p.1)).setIfInBounds (k * 2 + 1) (.int .i64 p.2) = sRow (L.set k p) := by
  apply Array.ext'
  simp only [sRow, Array.toList_setIfInBounds]
  induction L generalizing k with
  | nil => simp at h
  | cons x L ih =>
    cases k with
    | zero => rfl
    | succ k =>
      have := ih k (by simpa using h)
      rw [show (k + 1) * 2 = k * 2 + 1 + 1 by omega]
      simp only [List.flatMap_cons, List.cons_append, List.nil_append, List.set_cons_succ, this]
theorem sg_cells {w : World} {g k : Nat} {L : List (Int × Int)} {t : TypeId} {f : Nat × Nat} (h : w.heap[g]? = some (.cells (sRow L) t f)) (hk : k < L.length) :
    w.cell? ⟨g, k * 2, none⟩ = some (.int .i64 (L.getD k (0, 0)).1) ∧ w.cell? ⟨g, k * 2 + 1, none⟩ = some (.int .i64 (L.getD k (0, 0)).2) := by
  have hh := sRow_at L k hk
  rw [cell_of_row _ _ _ _ _ _ h, cell_of_row _ _ _ _ _ _ h, sRow, List.getElem?_toArray, List.getElem?_toArray]
  exact hh
theorem put_snoc {α β : Type} (l : List α) (f : α → β) (z : β) (d : α) (k : Nat) (h : k < l.length) :
    ((l.take k).map f ++ List.replicate (l.length - k) z).set k (f (l.getD k d)) = (l.take (k + 1)).map f ++ List.replicate (l.length - (k + 1)) z := by
  have hl : ((l.take k).map f).length = k := by simp; omega
  rw [List.set_append_right _ _ (by omega), hl, Nat.sub_self, List.take_succ_eq_append_getElem h, List.map_append, List.append_assoc]
  congr 1
  obtain ⟨m, hm⟩ : ∃ m, l.length - k = m + 1 := ⟨l.length - k - 1, by omega⟩
  have hm2 : l.length - (k + 1) = m := by omega
  rw [hm, hm2, List.replicate_succ, List.set_cons_zero, List.getD, List.getElem?_eq_getElem h]; rfl
theorem infoIntS : (Tryd.prog.info? 3).map (fun i => (i.zero, i.size, i.bytes)) = some (some (.int .i64 0), 1, 8) := by kernel_rfl
theorem made_ints (n : Nat) : madeCells #[.int .i64 0] (n * 1) = iRow (List.replicate n 0) := by
  apply Array.ext'
  rw [toList_madeCells_one]; simp [iRow]
theorem i_cell {w : World} {g k : Nat} {L : List Int} {t : TypeId} {f : Nat × Nat} (h : w.heap[g]? = some (.cells (iRow L) t f)) (hk : k < L.length) :
    w.cell? ⟨g, k, none⟩ = some (.int .i64 (L.getD k 0)) := by
  rw [cell_of_row _ _ _ _ _ _ h, iRow_at L k hk]
/-- A slice of numbers, out of a block. -/
theorem row_of_blk {w : World} {g : Nat} {L : List Int} {t : TypeId} {f : Nat × Nat} (h : w.heap[g]? = some (.cells (iRow L) t f)) : Row w (some ⟨g, 0, none⟩) L := fun j hj =>
  ⟨g, 0, rfl, by rw [Nat.zero_add]; exact i_cell h hj, blk_lt h⟩
theorem signs_of_blk {w : World} {g : Nat} {L : List (Int × Int)} {t : TypeId} {f : Nat × Nat} (h : w.heap[g]? = some (.cells (sRow L) t f)) : Signs w (some ⟨g, 0, none⟩) L := fun j hj =>
  ⟨g, 0, rfl, blk_lt h, by rw [Nat.zero_add]; exact (sg_cells h hj).1, by rw [Nat.zero_add]; exact (sg_cells h hj).2⟩
theorem app_cells {w : World} {h : Nat} {L : List Value} {t : TypeId} (hh : w.heap.size = h) {j : Nat} {x : Value} (hj : L[j]? = some x) : (w.alloc (.cells L.toArray t)).cell? ((⟨h, 0, none⟩ : Addr).add j) = some x := by
  subst hh
  have hadd : (⟨w.heap.size, 0, none⟩ : Addr).add j = ⟨w.heap.size, 0 + j, none⟩ := by unfold Addr.add; split <;> simp_all
  rw [hadd, World.cell?_alloc_new, Nat.zero_add, List.getElem?_toArray]; exact hj
end Go.Proofs.YtgnhnalaakgamaaDoor
set_option linter.unusedVariables false
set_option linter.unusedSimpArgs false
namespace Go.Proofs.YtgnhnalaakgamaaDoor
open Go.RowKit
/-- A piece: kind, two numbers, text. -/
abbrev Ot := Int × Int × Int × ByteArray
abbrev ot0 : Ot := (0, 0, 0, ⟨#[]⟩)
/-- A piece's cells, and its value in a slot. -/
def otL (p : Ot) : List Value := [.int .i64 p.1, .int .i64 p.2.1, .int .i64 p.2.2.1, .string p.2.2.2]
def otV (p : Ot) : Value := .agg #[.int .i64 p.1, .int .i64 p.2.1, .int .i64 p.2.2.1, .string p.2.2.2]
/-- A slice of pieces lies in memory. -/
def OutsIn (w : World) (a : Option Addr) (l : List Ot) : Prop :=
  ∀ i, i < l.length → ∃ b off, a = some ⟨b, off, none⟩ ∧ b < w.heap.size ∧ w.cell? ⟨b, off + i * 4, none⟩ = some (.int .i64 (l.getD i ot0).1) ∧ w.cell? ⟨b, off + i * 4 + 1, none⟩ = some (.int .i64 (l.getD i ot0).2.1) ∧
    w.cell? ⟨b, off + i * 4 + 2, none⟩ = some (.int .i64 (l.getD i ot0).2.2.1) ∧ w.cell? ⟨b, off + i * 4 + 3, none⟩ = some (.string (l.getD i ot0).2.2.2)
theorem OutsIn.below {w w' : World} {a : Option Addr} {l : List Ot} (h : OutsIn w a l) (hb : Below w.heap.size w w') : OutsIn w' a l := fun i hi => by
  obtain ⟨b, off, e, hlt, h1, h2, h3, h4⟩ := h i hi
  exact ⟨b, off, e, Nat.lt_of_lt_of_le hlt hb.size, (hb.cell (p := ⟨b, off + i * 4, none⟩) hlt).trans h1, (hb.cell (p := ⟨b, off + i * 4 + 1, none⟩) hlt).trans h2, (hb.cell (p := ⟨b, off + i * 4 + 2, none⟩) hlt).trans h3,
    (hb.cell (p := ⟨b, off + i * 4 + 3, none⟩) hlt).trans h4⟩
def oCells (L : List Ot) : List Value := L.flatMap otL
/-- A row of pieces in memory. -/
def oRow (L : List Ot) : Array Value := (oCells L).toArray
theorem oCells_len (L : List Ot) : (oCells L).length = L.length * 4 := by
  unfold oCells; induction L with
  | nil => rfl
  | cons x R ih => simp only [List.flatMap_cons, List.length_append, otL, List.length_cons, List.length_nil, ih]; omega
theorem oCells_at (L : List Ot) : ∀ i, i < L.length → (oCells L)[i * 4]? = some (.int .i64 (L.getD i ot0).1) ∧ (oCells L)[i * 4 + 1]? = some (.int .i64 (L.getD i ot0).2.1) ∧ (oCells L)[i * 4 + 2]? = some (.int .i64 (L.getD i ot0).2.2.1) ∧
    (oCells L)[i * 4 + 3]? = some (.string (L.getD i ot0).2.2.2) := by
  induction L with
  | nil => intro i hi; simp at hi
  | cons x L ih =>
    intro i hi
    cases i with
    | zero => exact ⟨rfl, rfl, rfl, rfl⟩
    | succ i =>
      have h := ih i (by simpa using hi)
      rw [show (i + 1) * 4 = i * 4 + 1 + 1 + 1 + 1 by omega]
      exact h
theorem oCells_snoc (L : List Ot) (x : Ot) : oCells (L ++ [x]) = oCells L ++ [.int .i64 x.1, .int .i64 x.2.1, .int .i64 x.2.2.1, .string x.2.2.2] := by simp [oCells, otL]
theorem oCells_append (L M : List Ot) : oCells (L ++ M) = oCells L ++ oCells M := by simp [oCells]
theorem outs_of_blk {w : World} {g : Nat} {L : List Ot} {t : TypeId} {f : Nat × Nat} (h : w.heap[g]? = some (.cells (oRow L) t f)) : OutsIn w (some ⟨g, 0, none⟩) L := fun j hj => by
  have hh := oCells_at L j hj
  refine ⟨g, 0, rfl, blk_lt h, ?_, ?_, ?_, ?_⟩
  · rw [Nat.zero_add, cell_of_row _ _ _ _ _ _ h, oRow, List.getElem?_toArray]; exact hh.1
  · rw [Nat.zero_add, cell_of_row _ _ _ _ _ _ h, oRow, List.getElem?_toArray]; exact hh.2.1
  · rw [Nat.zero_add, cell_of_row _ _ _ _ _ _ h, oRow, List.getElem?_toArray]; exact hh.2.2.1
  · rw [Nat.zero_add, cell_of_row _ _ _ _ _ _ h, oRow, List.getElem?_toArray]; exact hh.2.2.2
theorem toL_ne {a b : ByteArray} (h : ¬ a = b) : ¬ a.toList = b.toList := by
  rw [ByteArray.toList_eq, ByteArray.toList_eq]; intro e; exact h (ByteArray.ext (Array.ext' e))
end Go.Proofs.YtgnhnalaakgamaaDoor
set_option linter.unusedVariables false
set_option linter.unusedSimpArgs false
namespace Go.Proofs.YtgnhnalaakgamaaDoor
open Go.RowKit
theorem own_ne_kind {w : World} {B n size b : Nat} {e T : TypeId} {v : Value} {xs : List Value} {cs : Array Value} {fr : Nat × Nat} (h : w.ownsRow B e size v n xs) (hb : w.heap[b]? = some (.cells cs T fr)) (hT : T ≠ e) : v.ownBlock ≠ some b := by
  rcases h.2 with ⟨rfl, _⟩ | ⟨g, cap, cur, rfl, _, hg, _⟩
  · simp [Value.ownBlock]
  · intro e'
    obtain rfl : g = b := by simpa [Value.ownBlock] using e'
    rw [hg] at hb; simp at hb; exact hT hb.2.1.symm
theorem own_ne_own {w : World} {B B' n n' size size' : Nat} {e e' : TypeId} {v v' : Value} {xs xs' : List Value} (h : w.ownsRow B e size v n xs) (h' : w.ownsRow B' e' size' v' n' xs') (hT : e ≠ e') : v.ownBlock = none ∨ v.ownBlock ≠ v'.ownBlock := by
  rcases h.2 with ⟨rfl, _⟩ | ⟨g, cap, cur, rfl, _, hg, _⟩
  · exact .inl rfl
  · exact .inr fun e'' => own_ne_kind h' hg hT e''.symm
theorem own_set {w : World} {B n size : Nat} {e : TypeId} {v : Value} {xs : List Value} (h : w.ownsRow B e size v n xs) {a : Addr} (ha : v.ownBlock ≠ some a.block) (u : Value) : (w.setCell a u).ownsRow B e size v n xs := by
  refine ⟨h.1, ?_⟩
  rcases h.2 with h2 | ⟨g, cap, cur, rfl, hB, hg, r⟩
  · exact .inl h2
  · exact .inr ⟨g, cap, cur, rfl, hB, by rw [Below.heap_setCell _ _ _ _ (fun e => ha (by rw [← e]; rfl))]; exact hg, r⟩
/-- A row of numbers of the call's own, read as a slice. -/
theorem row_ofI {w : World} {B : Nat} {v : Value} {L : List Int} (h : w.ownsRow B 3 1 v L.length (L.map (Value.int .i64))) : ∃ a c, v = .slice a L.length c ∧ Row w a L := by
  rcases h.2 with ⟨rfl, h0⟩ | ⟨g, cap, cur, rfl, _, hg, _⟩
  · exact ⟨none, 0, by rw [h0], fun j hj => by omega⟩
  · refine ⟨_, cap, rfl, fun j hj => ⟨g, 0, rfl, ?_, blk_lt hg⟩⟩
    rw [Nat.zero_add, h.cellAt j (by omega), List.getElem?_map, List.getD, List.getElem?_eq_getElem hj]; rfl
end Go.Proofs.YtgnhnalaakgamaaDoor
set_option linter.unusedVariables false
set_option linter.unusedSimpArgs false
namespace Go.Proofs.YtgnhnalaakgamaaDoor
open Go.RowKit
/-- The utf8 tables lie in memory. -/
def UT (w : World) : Prop := Lib.Utf8Tabs 3 4 w ∧ 3 < w.heap.size ∧ 4 < w.heap.size
theorem UT.below {w w' : World} (h : UT w) (hb : Below w.heap.size w w') : UT w' :=
  ⟨⟨fun c hc => (hb.cell (p := ⟨3, c, none⟩) h.2.1).trans (h.1.1 c hc), fun i hi =>
    ⟨(hb.cell (p := ⟨4, 2 * i, none⟩) h.2.2).trans (h.1.2 i hi).1,
     (hb.cell (p := ⟨4, 2 * i + 1, none⟩) h.2.2).trans (h.1.2 i hi).2⟩⟩, Nat.lt_of_lt_of_le h.2.1 hb.size, Nat.lt_of_lt_of_le h.2.2 hb.size⟩
/-- The value at a place of a text, and its size. -/
def vAt (s : ByteArray) (i : Nat) : Nat × Nat := if (Utf8.decode s i).1 = 65533 ∧ (Utf8.decode s i).2 < 3 then (1114112 + (s.get! i).toNat, 1) else Utf8.decode s i
theorem vAt_val (s : ByteArray) (i : Nat) : vAt s i = valN (s.size - i) (s.get! i).toNat (s.get! (i + 1)).toNat (s.get! (i + 2)).toNat (s.get! (i + 3)).toNat := by
  unfold vAt valN; rw [Lib.decode_at]
def Fine (x m : Nat) : Prop := (m = 1 ∧ x < 128) ∨ (m = 2 ∧ 128 ≤ x ∧ x < 2048) ∨ (m = 3 ∧ 2048 ≤ x ∧ (x < 55296 ∨ 57344 ≤ x) ∧ x ≤ 65535) ∨ (m = 4 ∧ 65536 ≤ x ∧ x ≤ 1114111)
theorem decN_cases (n b0 b1 b2 b3 : Nat) : Lib.decodeN n b0 b1 b2 b3 = (65533, 1) ∨ Fine (Lib.decodeN n b0 b1 b2 b3).1 (Lib.decodeN n b0 b1 b2 b3).2 := by
  unfold Lib.decodeN
  by_cases c0 : b0 < 128
  · right; rw [if_pos c0]; exact Or.inl ⟨rfl, c0⟩
  · rw [if_neg c0]
    by_cases c1 : b0 / 32 = 6 ∧ (1 < n ∧ b1 / 64 = 2)
    · rw [if_pos c1]
      by_cases c2 : b0 % 32 * 64 + b1 % 64 ≥ 128
      · right; rw [if_pos c2]; exact Or.inr (Or.inl ⟨rfl, c2, by show _ < 2048; omega⟩)
      · left; rw [if_neg c2]
    · rw [if_neg c1]
      by_cases c3 : b0 / 16 = 14 ∧ (1 < n ∧ b1 / 64 = 2) ∧ (2 < n ∧ b2 / 64 = 2)
      · rw [if_pos c3]
        generalize hx : b0 % 16 * 4096 + b1 % 64 * 64 + b2 % 64 = x
        have hlt : x ≤ 65535 := by omega
        by_cases c2 : x ≥ 2048 ∧ (x < 55296 ∨ (57344 ≤ x ∧ x ≤ 1114111))
        · right; rw [if_pos c2]; exact Or.inr (Or.inr (Or.inl ⟨rfl, c2.1, by show x < 55296 ∨ 57344 ≤ x; omega, hlt⟩))
        · left; rw [if_neg c2]
      · rw [if_neg c3]
        by_cases c4 : b0 / 8 = 30 ∧ (1 < n ∧ b1 / 64 = 2) ∧ (2 < n ∧ b2 / 64 = 2) ∧ (3 < n ∧ b3 / 64 = 2)
        · rw [if_pos c4]
          generalize hx : b0 % 8 * 262144 + b1 % 64 * 4096 + b2 % 64 * 64 + b3 % 64 = x
          by_cases c2 : x ≥ 65536 ∧ (x < 55296 ∨ (57344 ≤ x ∧ x ≤ 1114111))
          · right; rw [if_pos c2]; exact Or.inr (Or.inr (Or.inr ⟨rfl, c2.1, by show x ≤ 1114111; omega⟩))
          · left; rw [if_neg c2]
        · left; rw [if_neg c4]
theorem dec_cases (s : ByteArray) (i : Nat) : Utf8.decode s i = (65533, 1) ∨ Fine (Utf8.decode s i).1 (Utf8.decode s i).2 := by
  rw [Lib.decode_at]; exact decN_cases _ _ _ _ _
theorem fine_len {x m : Nat} (h : Fine x m) : Lib.runeLen (x : Int) = (m : Int) := by
  unfold Lib.runeLen
  rcases h with ⟨rfl, h⟩ | ⟨rfl, h, h'⟩ | ⟨rfl, h, h', h2⟩ | ⟨rfl, h, h'⟩
  · rw [if_neg (by omega), if_pos (by omega)]; rfl
  · rw [if_neg (by omega), if_neg (by omega), if_pos (by omega)]; rfl
  · rw [if_neg (by omega), if_neg (by omega), if_neg (by omega), if_neg (by omega), if_pos (by omega)]; rfl
  · rw [if_neg (by omega), if_neg (by omega), if_neg (by omega), if_neg (by omega), if_neg (by omega), if_pos (by omega)]; rfl
theorem ret_ii {a b c d : Int} (h : a = b) (h2 : c = d) : Ending.returned (.tuple #[.int .i64 a, .int .i64 c]) = .returned (.tuple #[.int .i64 b, .int .i64 d]) := by rw [h, h2]
end Go.Proofs.YtgnhnalaakgamaaDoor
namespace Go.Proofs.YtgnhnalaakgamaaDoor
open Go.RowKit
theorem dec_pos (s : ByteArray) (i : Nat) (h : i < s.size) : 1 ≤ (Utf8.decode s i).2 ∧ (Utf8.decode s i).2 ≤ 4 ∧ i + (Utf8.decode s i).2 ≤ s.size := by
  rw [Lib.decode_at]
  unfold Lib.decodeN
  repeat' split
  all_goals (simp only; omega)
theorem vAt_size (s : ByteArray) (i : Nat) (h : i < s.size) : (vAt s i).2 = (Utf8.decode s i).2 := by
  have hp := dec_pos s i h
  unfold vAt
  split
  · rename_i h2
    have := dec_cases s i
    rcases this with h3 | h3
    · rw [h3]
    · rcases h3 with h3 | h3 | h3 | h3 <;> omega
  · rfl
/-- A text's first value. -/
def oneS (s : ByteArray) : Nat × Nat := if s.size = 0 then (0, 0) else vAt s 0
/-- A text's values, from a place on, at most so many. -/
def valsF (s : ByteArray) : Nat → Nat → List Int
  | 0, _ => []
  | f + 1, i => if i < s.size then ((vAt s i).1 : Int) :: valsF s f (i + (Utf8.decode s i).2) else []
def valsS (s : ByteArray) : List Int := valsF s s.size 0
theorem valsF_end (s : ByteArray) (f i : Nat) (h : ¬ i < s.size) : valsF s f i = [] := by
  cases f with
  | zero => rfl
  | succ f => rw [valsF, if_neg h]
theorem valsF_step (s : ByteArray) (f i : Nat) (h : i < s.size) : valsF s (f + 1) i = ((vAt s i).1 : Int) :: valsF s f (i + (Utf8.decode s i).2) := by rw [valsF, if_pos h]
theorem valsF_len (s : ByteArray) : ∀ f i, (valsF s f i).length + i ≤ s.size ∨ valsF s f i = [] := by
  intro f
  induction f with
  | zero => intro i; right; rfl
  | succ f ih =>
    intro i
    by_cases h : i < s.size
    · rw [valsF_step s f i h]
      have hp := dec_pos s i h
      left
      rcases ih (i + (Utf8.decode s i).2) with h2 | h2
      · simp; omega
      · rw [h2]; simp; omega
    · right; exact valsF_end s _ i h
end Go.Proofs.YtgnhnalaakgamaaDoor
namespace Go.Proofs.YtgnhnalaakgamaaDoor
open Go.RowKit
theorem infoInt : (Tryd.prog.info? 3).map (fun i => (i.zero, i.size, i.bytes)) = some (some (.int .i64 0), 1, 8) := by kernel_rfl
theorem iBuild (l : List Int) (x : Int) : l.map (Value.int .i64) ++ [Value.int .i64 x] = (l ++ [x]).map (Value.int .i64) := by simp
/-- The loop of Decode. -/
structure DecInv (s : ByteArray) (w : World) (B : Nat) (i f : Nat) (acc : List Int) (v : Value) (wr : World) : Prop where
  own : wr.ownsRow w.heap.size 3 1 v acc.length (acc.map (Value.int .i64))
  it : wr.heap[B]? = some (.stringIter s i)
  bl : Below w.heap.size w wr
  ac : acc ++ valsF s f i = valsS s
  le : i ≤ s.size
  fu : s.size ≤ i + f
  al : acc.length ≤ i
theorem grown_of_below {w w' : World} (h : Below w.heap.size w w') : w.grownBy w' none := ⟨h.os, h.tape, h.output, h.size, fun k hk _ => h.block k hk⟩
theorem own_apart {w : World} {base : Nat} {e : TypeId} {size : Nat} {v : Value} {n : Nat} {xs : List Value} (h : w.ownsRow base e size v n xs) {B : Nat} {s : ByteArray} {i : Nat} (hb : w.heap[B]? = some (.stringIter s i)) : v.ownBlock ≠ some B := by
  rcases h.2 with ⟨rfl, _⟩ | ⟨g, cap, cur, rfl, _, hg, _⟩
  · simp [Value.ownBlock]
  · intro e1
    have : g = B := by simpa [Value.ownBlock] using e1
    subst this
    rw [hg] at hb; cases hb
theorem own_iter {w : World} {base : Nat} {e : TypeId} {size : Nat} {v : Value} {n : Nat} {xs : List Value} (h : w.ownsRow base e size v n xs) {B : Nat} {s : ByteArray} {i : Nat} (hb : w.heap[B]? = some (.stringIter s i)) (j : Nat) :
    (w.iterAt B s j).ownsRow base e size v n xs := by
  have hg : w.grownBy (w.iterAt B s j) (some B) := ⟨rfl, rfl, rfl, by rw [Lib.iterAt_size]; exact Nat.le_refl _, fun k _ hne => Lib.iterAt_other w B k s j (by intro e1; exact hne (by rw [e1]))⟩
  exact h.kept hg (Or.inr (own_apart h hb))
theorem own_below {w w' : World} {base : Nat} {e : TypeId} {size : Nat} {v : Value} {n : Nat} {xs : List Value} (h : w.ownsRow base e size v n xs) (hb : Below w.heap.size w w') : w'.ownsRow base e size v n xs :=
  h.kept (grown_of_below hb) (by cases hv : v.ownBlock <;> simp)
end Go.Proofs.YtgnhnalaakgamaaDoor
set_option linter.unusedVariables false
set_option linter.unusedSimpArgs false
namespace Go.Proofs.YtgnhnalaakgamaaDoor
open Go.RowKit
theorem apR_app (a b : List (Int × Int)) : (sRow (a ++ b)).toList = (sRow a).toList ++ (sRow b).toList := by simp [sRow]
theorem apR_one (l : List (Int × Int)) : ∀ u ∈ (sRow l).toList, u.oneCell' = true := by
  intro u hu
  simp only [sRow, List.toList_toArray, List.mem_flatMap] at hu
  obtain ⟨p, _, hp⟩ := hu
  simp at hp
  rcases hp with rfl | rfl <;> rfl
theorem apR_len (l : List (Int × Int)) : (sRow l).toList.length = l.length * 2 := by
  simp only [sRow, List.toList_toArray]
  induction l with
  | nil => rfl
  | cons x l ih => simp only [List.flatMap_cons, List.length_append, List.length_cons, List.length_nil, ih]; omega
theorem apR_news {w : World} {ad : Addr} {l : List (Int × Int)} (h : Signs w (some ad) l) : ∀ j u, (sRow l).toList[j]? = some u → w.cell? (ad.add j) = some u := by
  intro j u hj
  have hlen := apR_len l
  have hj2 : j < l.length * 2 := by
    rw [← hlen]
    exact (List.getElem?_eq_some_iff.1 hj).1
  obtain ⟨b, off, e, _, h1, h2⟩ := h (j / 2) (by omega)
  injection e with e
  subst e
  have hadd : (⟨b, off, none⟩ : Addr).add j = ⟨b, off + j, none⟩ := by unfold Addr.add; split <;> simp_all
  have hs := sRow_at l (j / 2) (by omega)
  have hj' : (l.flatMap fun p => [Value.int .i64 p.1, Value.int .i64 p.2])[j]? = some u := hj
  rw [hadd]
  rcases Nat.mod_two_eq_zero_or_one j with hm | hm
  · have e : j / 2 * 2 = j := by omega
    rw [e] at hs h1
    rw [hs.1] at hj'
    rw [h1]; exact hj'
  · have e : j / 2 * 2 + 1 = j := by omega
    rw [e] at hs
    rw [show off + j / 2 * 2 + 1 = off + j by omega] at h2
    rw [hs.2] at hj'
    rw [h2]; exact hj'
/-- A slice of signs, its room, and where its block is. -/
structure SlS (S : Nat → Prop) (w : World) (a : Option Addr) (L : List (Int × Int)) (c : Nat) : Prop where
  s : Signs w a L
  le : L.length ≤ c
  nl : a = none → c = 0
  st : ∀ ad, a = some ad → L ≠ [] → S ad.block
theorem SlS.mono {S T : Nat → Prop} {w : World} {a : Option Addr} {L : List (Int × Int)} {c : Nat} (h : SlS S w a L c) (hT : ∀ k, S k → T k) : SlS T w a L c := ⟨h.s, h.le, h.nl, fun ad e hn => hT _ (h.st ad e hn)⟩
theorem SlS.keep {S : Nat → Prop} {w w' : World} {a : Option Addr} {L : List (Int × Int)} {c : Nat} (h : SlS S w a L c) (hs : w.heap.size ≤ w'.heap.size) (hk : ∀ k, S k → w'.heap[k]? = w.heap[k]?) : SlS S w' a L c := by
  refine ⟨fun i hi => ?_, h.le, h.nl, h.st⟩
  obtain ⟨b, off, e, hb, h1, h2⟩ := h.s i hi
  have hS := h.st _ e (fun h0 => by rw [h0] at hi; simp at hi)
  have hkb : w'.heap[b]? = w.heap[b]? := hk b hS
  refine ⟨b, off, e, Nat.lt_of_lt_of_le hb hs, ?_, ?_⟩
  · rw [← h1]; unfold World.cell?; rw [hkb]
  · rw [← h2]; unfold World.cell?; rw [hkb]
theorem SlS.below {S : Nat → Prop} {w w' : World} {a : Option Addr} {L : List (Int × Int)} {c : Nat} (h : SlS S w a L c) (hb : Below w.heap.size w w') : SlS S w' a L c := ⟨h.s.below hb, h.le, h.nl, h.st⟩
/-- A part of a slice. -/
theorem SlS.sub {S : Nat → Prop} {w : World} {a : Option Addr} {L : List (Int × Int)} {c : Nat} (h : SlS S w a L c) (f t : Nat) (hf : f ≤ t) (ht : t ≤ L.length) : SlS S w (if c = f then a else a.map (·.add (f * 2))) ((L.drop f).take (t - f)) (c - f) ∧ ((L.drop f).take (t - f)).length = t - f := by
  have hlen : ((L.drop f).take (t - f)).length = t - f := by rw [List.length_take, List.length_drop]; omega
  have hle := h.le
  refine ⟨⟨fun i hi => ?_, by omega, fun h0 => ?_, fun ad e hn => ?_⟩, hlen⟩
  · rw [hlen] at hi
    obtain ⟨b, off, e, hb, h1, h2⟩ := h.s (f + i) (by omega)
    have hg : ((L.drop f).take (t - f)).getD i (0, 0) = L.getD (f + i) (0, 0) := by
      rw [List.getD, List.getElem?_take, if_pos hi, List.getElem?_drop, List.getD]
    rw [if_neg (by omega), e, hg]
    refine ⟨b, off + f * 2, ?_, hb, ?_, ?_⟩
    · have hadd : (⟨b, off, none⟩ : Addr).add (f * 2) = ⟨b, off + f * 2, none⟩ := by unfold Addr.add; split <;> simp_all
      simp only [Option.map_some, hadd]
    · rw [show off + f * 2 + i * 2 = off + (f + i) * 2 by omega]; exact h1
    · rw [show off + f * 2 + i * 2 + 1 = off + (f + i) * 2 + 1 by omega]; exact h2
  · have : a = none := by
      by_cases hc : c = f
      · rw [if_pos hc] at h0; exact h0
      · rw [if_neg hc] at h0; cases a with
        | none => rfl
        | some x => cases h0
    have := h.nl this; omega
  · have hpos : 0 < ((L.drop f).take (t - f)).length := List.length_pos_iff.2 hn
    rw [hlen] at hpos
    have hL : L ≠ [] := fun h0 => by rw [h0] at ht; simp at ht; omega
    rw [if_neg (by omega)] at e
    cases a with
    | none => cases e
    | some x =>
      have := h.st x rfl hL
      simp only [Option.map_some, Option.some.injEq] at e
      rw [← e]
      unfold Addr.add; split <;> exact this
end Go.Proofs.YtgnhnalaakgamaaDoor
namespace Go.Proofs.YtgnhnalaakgamaaDoor
open Go.RowKit
theorem sizeB_cases (c : Nat) (h : c < 256) : (c < 128 ∧ sizeB c = 1) ∨ (194 ≤ c ∧ c ≤ 223 ∧ sizeB c = 2) ∨ (224 ≤ c ∧ c ≤ 239 ∧ sizeB c = 3) ∨ (240 ≤ c ∧ c ≤ 244 ∧ sizeB c = 4) ∨ (128 ≤ c ∧ c < 194 ∧ sizeB c = 0) ∨ (244 < c ∧ sizeB c = 0) := by
  unfold sizeB; repeat' split
  all_goals omega
end Go.Proofs.YtgnhnalaakgamaaDoor
set_option linter.unusedVariables false
set_option linter.unusedSimpArgs false
namespace Go.Proofs.YtgnhnalaakgamaaDoor
open Go.RowKit
/-- Does another byte belong to it? -/
def more (s : ByteArray) (m : Nat) : Prop := m < sizeB (s.get! 0).toNat ∧ m < s.size ∧ mayB (s.get! 0).toNat (s.get! m).toNat m = true
/-- How many bytes belong to what the first one begins, from m on. -/
def bgF (s : ByteArray) : Nat → Nat → Nat
  | 0, m => m
  | f + 1, m => if m < sizeB (s.get! 0).toNat ∧ m < s.size ∧ mayB (s.get! 0).toNat (s.get! m).toNat m = true then bgF s f (m + 1) else m
def begS (s : ByteArray) : Nat := bgF s 4 1
theorem sizeB_le (c : Nat) : sizeB c ≤ 4 := by unfold sizeB; repeat' split
                                               all_goals omega
theorem begS_B (s : ByteArray) : begS s = begB s.size (s.get! 0).toNat (s.get! 1).toNat (s.get! 2).toNat (s.get! 3).toNat := by
  have h4 : ¬ (4 < sizeB (s.get! 0).toNat ∧ 4 < s.size ∧ mayB (s.get! 0).toNat (s.get! 4).toNat 4 = true) := by have := sizeB_le (s.get! 0).toNat; omega
  unfold begS begB
  simp only [bgF]
  rw [if_neg h4]
theorem bgF_le (s : ByteArray) (hs : 0 < s.size) : ∀ f m, m ≤ s.size → bgF s f m ≤ s.size := by
  intro f
  induction f with
  | zero => intro m h; exact h
  | succ f ih =>
    intro m h
    rw [bgF]
    split
    · rename_i hm; exact ih (m + 1) hm.2.1
    · exact h
theorem begS_rng (s : ByteArray) (hs : 0 < s.size) : 1 ≤ begS s ∧ begS s ≤ 4 ∧ begS s ≤ s.size := by
  refine ⟨?_, ?_, bgF_le s hs 4 1 (by omega)⟩
  · rw [begS_B]; unfold begB; repeat' split
    all_goals omega
  · rw [begS_B]; unfold begB; repeat' split
    all_goals omega
end Go.Proofs.YtgnhnalaakgamaaDoor
namespace Go.Proofs.YtgnhnalaakgamaaDoor
open Go.RowKit
theorem get0 (s : ByteArray) (i : Nat) : (s.get! i).toNat < 256 := (s.get! i).toNat_lt
theorem vAt_one (s : ByteArray) (hs : 0 < s.size) : vAt s 0 = oneB s.size (s.get! 0).toNat (s.get! 1).toNat (s.get! 2).toNat (s.get! 3).toNat := by
  rw [vAt_val, one_val _ _ _ _ _ (by omega) (get0 _ _) (get0 _ _) (get0 _ _) (get0 _ _)]; simp
theorem beg_m1 {n b0 b1 b2 b3 : Nat} (h : 2 ≤ begB n b0 b1 b2 b3) : 128 ≤ b1 := by
  unfold begB at h
  split at h
  · rename_i h1; exact ((mayB_iff _ _ _).1 h1.2.2).1.1
  · omega
theorem beg_m2 {n b0 b1 b2 b3 : Nat} (h : 3 ≤ begB n b0 b1 b2 b3) : 128 ≤ b2 := by
  unfold begB at h
  split at h
  · split at h
    · rename_i h1; exact ((mayB_iff _ _ _).1 h1.2.2).1.1
    · omega
  · omega
theorem beg_m3 {n b0 b1 b2 b3 : Nat} (h : 4 ≤ begB n b0 b1 b2 b3) : 128 ≤ b3 := by
  unfold begB at h
  split at h
  · split at h
    · split at h
      · rename_i h1; exact ((mayB_iff _ _ _).1 h1.2.2).1.1
      · omega
    · omega
  · omega
theorem wv2 (a b : Nat) (h0 : 194 ≤ a) (h1 : a ≤ 223) (h2 : 128 ≤ b) (h3 : b < 256) :
    wrap64 (wrap64 (wrap64 (wrap64 (wrap64 (a : Int) - 192) * 64) + wrap64 (b : Int)) - 128) = (((a - 192) * 64 + b - 128 : Nat) : Int) := by
  simp (disch := omega) only [IntWalk.wrap64_in]; omega
theorem wv3 (a b c : Nat) (h0 : 224 ≤ a) (h1 : a ≤ 239) (h2 : 128 ≤ b) (h3 : b < 256) (h4 : 128 ≤ c) (h5 : c < 256) :
    wrap64 (wrap64 (wrap64 (wrap64 (wrap64 (wrap64 (wrap64 (wrap64 (a : Int) - 224) * 64) + wrap64 (b : Int)) - 128) * 64) + wrap64 (c : Int)) - 128) = ((((a - 224) * 64 + b - 128) * 64 + c - 128 : Nat) : Int) := by
  simp (disch := omega) only [IntWalk.wrap64_in]; omega
theorem wv4 (a b c d : Nat) (h0 : 240 ≤ a) (h1 : a ≤ 244) (h2 : 128 ≤ b) (h3 : b < 256) (h4 : 128 ≤ c) (h5 : c < 256) (h6 : 128 ≤ d) (h7 : d < 256) :
    wrap64 (wrap64 (wrap64 (wrap64 (wrap64 (wrap64 (wrap64 (wrap64 (wrap64 (wrap64 (wrap64 (a : Int) - 240) * 64) + wrap64 (b : Int)) - 128) * 64) + wrap64 (c : Int)) - 128) * 64) + wrap64 (d : Int)) - 128) = (((((a - 240) * 64 + b - 128) * 64 + c - 128) * 64 + d - 128 : Nat) : Int) := by
  simp (disch := omega) only [IntWalk.wrap64_in]; omega
end Go.Proofs.YtgnhnalaakgamaaDoor
