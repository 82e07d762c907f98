/-
  Joined: E1 E2 E3 Ky0 E4 Ky1 Sg1 Mk Of0 M0 Ow Sg2 U1 U2 U3.
-/
import Derived.Test.YtmnjafceenckpaaDoorJQ03
import Derived.Test.YtmnjafceenckpaaDoorJQ04
import Derived.Test.YtmnjafceenckpaaDoorRows
import Derived.Test.YtmnjafceenckpaaDoorShelf
import Derived.Lib.OthersKept
import Derived.Handy
import Derived.WalkSpells
import Derived.WalkLawsBesides
import Derived.Laws.BytesArg
import Derived.Laws.OwnMore
import Derived.Laws.MakeOwn
import Derived.Deep.OwnRows
import Derived.OwnWalk
import Derived.Laws.StructEq
import Derived.Lib.Small
import Derived.Lib.RuneCountTail
set_option linter.unusedVariables false
set_option linter.unusedSimpArgs false
set_option maxRecDepth 100000
set_option linter.unusedVariables false
set_option linter.unusedSimpArgs false
namespace Go.Proofs.YtmnjafceenckpaaDoor
open Go.RowKit
theorem ret_boolU {a b : Bool} (h : a = b) : Ending.returned (.bool a) = .returned (.bool b) := by rw [h]
theorem infoByte : (Tryd.prog.info? 5).map (fun i => (i.zero, i.size, i.bytes)) = some (some (.int .u8 0), 1, 1) := by kernel_rfl
/-- A row of ints that can be read. -/
def Row (w : World) (a : Option Addr) (l : List Int) : Prop := ∀ j, j < l.length → ∃ b off, a = some ⟨b, off, none⟩ ∧ w.cell? ⟨b, off + j, none⟩ = some (.int .i64 (l.getD j 0)) ∧ b < w.heap.size
theorem Row.below {w w' : World} {a : Option Addr} {l : List Int} (h : Row w a l) (hb : Below w.heap.size w w') : Row w' a l := by
  intro j hj
  obtain ⟨b, off, ha, hc, hlt⟩ := h j hj
  exact ⟨b, off, ha, (hb.cell (p := ⟨b, off + j, none⟩) hlt).trans hc, Nat.lt_of_lt_of_le hlt hb.size⟩
theorem stray_any (v : Int) (w : World) : Calls Tryd.prog 69 #[.int .i64 v] w fun e w' => e = .returned (.bool (stB v)) ∧ w' = w := by
  have e1 := stB_iff v
  by_cases h1 : 1114240 ≤ v
  · by_cases h2 : v ≤ 1114367
    · have H := Lib.hid (e1.2 ⟨h1, h2⟩); clear e1
      go_enter Tryd.func69, Tryd.ntmps69
      go_wp2
      go_ret
      exact ⟨ret_boolU H.out.symm, rfl⟩
    · have H : Hid (stB v = false) := Lib.hid (by rw [← Bool.not_eq_true]; intro h; exact h2 (e1.1 h).2); clear e1
      go_enter Tryd.func69, Tryd.ntmps69
      go_wp2
      go_ret
      exact ⟨ret_boolU H.out.symm, rfl⟩
  · have H : Hid (stB v = false) := Lib.hid (by rw [← Bool.not_eq_true]; intro h; exact h1 (e1.1 h).1); clear e1
    go_enter Tryd.func69, Tryd.ntmps69
    go_wp2
    go_ret
    exact ⟨ret_boolU H.out.symm, rfl⟩
theorem point_any (v : Int) (w : World) : Calls Tryd.prog 68 #[.int .i64 v] w fun e w' => e = .returned (.bool (ptB v)) ∧ w' = w := by
  have e1 := ptB_iff v
  have hf : ¬ ((0 ≤ v ∧ v < 55296) ∨ (57343 < v ∧ v ≤ 1114111)) → ptB v = false := by intro h; rw [← Bool.not_eq_true]; intro h2; exact h (e1.1 h2)
  by_cases h1 : 0 ≤ v
  · by_cases h2 : v ≤ 1114111
    · by_cases h3 : v < 55296
      · have H := Lib.hid (e1.2 (Or.inl ⟨h1, h3⟩)); clear e1 hf
        go_enter Tryd.func68, Tryd.ntmps68
        go_wp2
        go_ret
        exact ⟨ret_boolU H.out.symm, rfl⟩
      · by_cases h4 : 57343 < v
        · have H := Lib.hid (e1.2 (Or.inr ⟨h4, h2⟩)); clear e1 hf
          go_enter Tryd.func68, Tryd.ntmps68
          go_wp2
          go_ret
          exact ⟨ret_boolU H.out.symm, rfl⟩
        · have h5 : decide (57343 < v) = false := decide_eq_false h4
          have H := Lib.hid (hf (by omega)); clear e1 hf
          go_enter Tryd.func68, Tryd.ntmps68
          go_wp2
          go_ret
          exact ⟨ret_boolU H.out.symm, rfl⟩
    · have H := Lib.hid (hf (by omega)); clear e1 hf
      go_enter Tryd.func68, Tryd.ntmps68
      go_wp2
      go_ret
      exact ⟨ret_boolU H.out.symm, rfl⟩
  · have H := Lib.hid (hf (by omega)); clear e1 hf
    go_enter Tryd.func68, Tryd.ntmps68
    go_wp2
    go_ret
    exact ⟨ret_boolU H.out.symm, rfl⟩
def rightB (v : Int) : Bool := ptB v || stB v
theorem right_any (v : Int) (w : World) : Calls Tryd.prog 45 #[.int .i64 v] w fun e w' => e = .returned (.bool (rightB v)) ∧ w' = w := by
  have P := Lib.hid (fun w => point_any v w)
  have S := Lib.hid (fun w => stray_any v w)
  have e0 : rightB v = (ptB v || stB v) := rfl
  generalize stB v = s at *
  cases h : ptB v
  · rw [h] at P e0
    have H := Lib.hid e0; clear e0 h
    go_enter Tryd.func45, Tryd.ntmps45
    go_wp2_with (first
      | (go_at_call 68; refine (P.out _).mono ?_; rintro e w1 ⟨rfl, rfl⟩)
      | (go_at_call 69; refine (S.out _).mono ?_; rintro e w1 ⟨rfl, rfl⟩))
    go_ret
    exact ⟨ret_boolU (H.out.trans (Bool.false_or _)).symm, rfl⟩
  · rw [h] at P e0
    have H := Lib.hid e0; clear e0 h
    go_enter Tryd.func45, Tryd.ntmps45
    go_wp2_with (first
      | (go_at_call 68; refine (P.out _).mono ?_; rintro e w1 ⟨rfl, rfl⟩)
      | (go_at_call 69; refine (S.out _).mono ?_; rintro e w1 ⟨rfl, rfl⟩))
    go_ret
    exact ⟨ret_boolU (H.out.trans (Bool.true_or _)).symm, rfl⟩
theorem right_ref (v : Int) (w : World) : Calls Tryd.prog 52 #[.int .i64 v] w fun e w' => e = .returned (.bool (rightB v)) ∧ w' = w := by
  have e1 : rightB v = true ↔ ((0 ≤ v ∧ v < 55296) ∨ (57343 < v ∧ v ≤ 1114111)) ∨ (1114240 ≤ v ∧ v ≤ 1114367) := by unfold rightB; rw [Bool.or_eq_true, ptB_iff, stB_iff]
  have hf : ¬ (((0 ≤ v ∧ v < 55296) ∨ (57343 < v ∧ v ≤ 1114111)) ∨ (1114240 ≤ v ∧ v ≤ 1114367)) → rightB v = false := by intro h; rw [← Bool.not_eq_true]; intro h2; exact h (e1.1 h2)
  have E : Hid (∀ b : Bool, rightB v = b → (Calls Tryd.prog 52 #[.int .i64 v] w fun e w' => e = .returned (.bool b) ∧ w' = w) → (Calls Tryd.prog 52 #[.int .i64 v] w fun e w' => e = .returned (.bool (rightB v)) ∧ w' = w)) := Lib.hid (fun b h k => by rw [h]; exact k)
  rcases (by omega : v < 0 ∨ (0 ≤ v ∧ v < 55296) ∨ (55296 ≤ v ∧ v ≤ 57343) ∨ (57343 < v ∧ v ≤ 1114111) ∨ (1114111 < v ∧ v < 1114240) ∨ (1114240 ≤ v ∧ v ≤ 1114367) ∨ 1114367 < v) with h | ⟨h, h'⟩ | ⟨h, h'⟩ | ⟨h, h'⟩ | ⟨h, h'⟩ | ⟨h, h'⟩ | h
  · refine E.out _ (hf (by omega)) ?_; clear e1 hf E
    go_enter Tryd.func52, Tryd.ntmps52
    go_wp2
    go_ret
    exact ⟨rfl, rfl⟩
  · refine E.out _ (e1.2 (by omega)) ?_; clear e1 hf E
    go_enter Tryd.func52, Tryd.ntmps52
    go_wp2
    go_ret
    exact ⟨rfl, rfl⟩
  · refine E.out _ (hf (by omega)) ?_; clear e1 hf E
    go_enter Tryd.func52, Tryd.ntmps52
    go_wp2
    go_ret
    exact ⟨rfl, rfl⟩
  · refine E.out _ (e1.2 (by omega)) ?_; clear e1 hf E
    go_enter Tryd.func52, Tryd.ntmps52
    go_wp2
    go_ret
    exact ⟨rfl, rfl⟩
  · refine E.out _ (hf (by omega)) ?_; clear e1 hf E
    go_enter Tryd.func52, Tryd.ntmps52
    go_wp2
    go_ret
    exact ⟨rfl, rfl⟩
  · refine E.out _ (e1.2 (by omega)) ?_; clear e1 hf E
    go_enter Tryd.func52, Tryd.ntmps52
    go_wp2
    go_ret
    exact ⟨rfl, rfl⟩
  · refine E.out _ (hf (by omega)) ?_; clear e1 hf E
    have hn : decide (v ≤ 1114367) = false := decide_eq_false (by omega)
    go_enter Tryd.func52, Tryd.ntmps52
    go_wp2
    go_ret
    exact ⟨rfl, rfl⟩
theorem ext_getD (a b : List Int) (h : a.length = b.length) (h2 : ∀ j, j < a.length → a.getD j 0 = b.getD j 0) : a = b := by
  apply List.ext_getElem h
  intro j h1 h3
  have := h2 j h1
  simpa [List.getD, List.getElem?_eq_getElem h1, List.getElem?_eq_getElem h3] using this
theorem cell_new (w : World) (v : Value) (e : TypeId) : (w.alloc (Obj.cells #[v] e)).cell? ({ block := w.heap.size, off := 0 } : Addr) = some v := by
  have h : (w.alloc (Obj.cells #[v] e)).heap[w.heap.size]? = some (Obj.cells #[v] e) := Array.getElem?_push_size
  simp only [World.cell?, h]; rfl
end Go.Proofs.YtmnjafceenckpaaDoor
namespace Go.Proofs.YtmnjafceenckpaaDoor
open Go.RowKit
def u8s (l : List Int) : List Value := l.map (Value.int .u8)
structure EncInv (l : List Int) (a : Option Addr) (w : World) (k : Nat) (v : Value) (wr : World) : Prop where
  own : wr.ownsRow w.heap.size 5 1 v (encI (l.take k)).length (u8s (encI (l.take k)))
  bl : Below w.heap.size w wr
  le : k ≤ l.length
theorem enc_take (l : List Int) (k : Nat) (h : k < l.length) : encI (l.take (k + 1)) = encI (l.take k) ++ oneI (l.getD k 0) := by
  rw [List.take_add_one, encI_append, List.getElem?_eq_getElem h]
  simp [encI, List.getD, List.getElem?_eq_getElem h]
theorem enc_take_len (l : List Int) (k : Nat) (h : l.length ≤ 1000000) : (encI (l.take k)).length ≤ 4000000 := by
  have := encI_len (l.take k); simp at this; omega
theorem conv_own {w : World} {B : Nat} {v : Value} {l : List Int} (h : w.ownsRow B 5 1 v (encI l).length (u8s (encI l))) :
    ∀ dst, Tryd.prog.underlying dst = some .string → (convert 54 dst v).run Tryd.prog w = .ok (.string (encS l)) w := by
  intro dst hd
  rcases h.2 with ⟨rfl, h0⟩ | ⟨g, cap, cur, rfl, _, _, _⟩
  · have e : encI l = [] := List.eq_nil_of_length_eq_zero h0
    rw [run_convert_bytes_nil w _ 5 Tryd.underlying54 Tryd.underlying5 0 0 dst hd, encS, e]
    rfl
  · rw [run_convert_bytes_arg w _ 5 Tryd.underlying54 Tryd.underlying5 g 0 _ _ (encI l) rfl (fun i hi => ?_) dst hd]
    · rfl
    · have := h.cells (g := g) rfl i (.int .u8 ((encI l).getD i 0)) (by simp [u8s, List.getElem?_eq_getElem hi, List.getD])
      have hadd : (⟨g, 0, none⟩ : Addr).add i = ⟨g, 0 + i, none⟩ := by unfold Addr.add; split <;> simp_all
      rw [← hadd]; exact this
end Go.Proofs.YtmnjafceenckpaaDoor
namespace Go.Proofs.YtmnjafceenckpaaDoor
open Go.RowKit
theorem conv_lit {w : World} {g k c : Nat} (l : List Int) (hl : k = l.length) (h : ∀ i, i < k → w.cell? ⟨g, 0 + i, none⟩ = some (.int .u8 (l.getD i 0))) :
    ∀ dst, Tryd.prog.underlying dst = some .string → (convert 54 dst (.slice (some ⟨g, 0, none⟩) k c)).run Tryd.prog w = .ok (.string (txt l)) w := by
  intro dst hd
  rw [run_convert_bytes_arg w _ 5 Tryd.underlying54 Tryd.underlying5 g 0 _ _ l hl.symm h dst hd]
  rfl
theorem conv_new (w : World) (l : List Int) (n : Nat) (hn : n = l.length) :
    ∀ dst, Tryd.prog.underlying dst = some .string → (convert 54 dst (.slice (some ⟨w.heap.size, 0, none⟩) n n)).run Tryd.prog (w.alloc (Obj.cells (l.map (Value.int .u8)).toArray 5)) = .ok (.string (txt l)) (w.alloc (Obj.cells (l.map (Value.int .u8)).toArray 5)) := by
  refine conv_lit l hn (fun i hi => ?_)
  have h : (w.alloc (Obj.cells (l.map (Value.int .u8)).toArray 5)).heap[w.heap.size]? = some (Obj.cells (l.map (Value.int .u8)).toArray 5) := Array.getElem?_push_size
  have hi' : i < l.length := by omega
  simp only [World.cell?, h, Nat.zero_add]
  simp [List.getElem?_eq_getElem hi', List.getD]
end Go.Proofs.YtmnjafceenckpaaDoor
set_option linter.unusedVariables false
set_option linter.unusedSimpArgs false
namespace Go.Proofs.YtmnjafceenckpaaDoor
open Go.RowKit
def lnB (v : Int) : Bool := decide (v = 10 ∨ v = 13 ∨ v = 27)
def ctB (v : Int) : Bool := decide (0 ≤ v ∧ v ≤ 31) && !lnB v
theorem lnB_yes {v : Int} (h : v = 10 ∨ v = 13 ∨ v = 27) : lnB v = true := decide_eq_true h
theorem lnB_no {v : Int} (h : ¬ (v = 10 ∨ v = 13 ∨ v = 27)) : lnB v = false := decide_eq_false h
end Go.Proofs.YtmnjafceenckpaaDoor
namespace Go.Proofs.YtmnjafceenckpaaDoor
open Go.RowKit
theorem txt_append (a b : List Int) : txt (a ++ b) = txt a ++ txt b := by
  apply ByteArray.ext
  simp [txt]
theorem oneI_wrong {v : Int} (h : rightB v = false) : oneI v = [] := by
  unfold rightB at h
  rw [Bool.or_eq_false_iff] at h
  exact oneI_no h.1 h.2
end Go.Proofs.YtmnjafceenckpaaDoor
set_option linter.unusedVariables false
set_option linter.unusedSimpArgs false
namespace Go.Proofs.YtmnjafceenckpaaDoor
open Go.RowKit
/-- A key: kind, value, text, cut. -/
abbrev Ky := Int × Int × ByteArray × Bool
abbrev KRow := Int × Int × List UInt8 × List UInt8
/-- The keys of one name: kind, value, name, bytes. -/
def kTab : List KRow := [
  (4, 13, [82, 69, 84], [13]),
  (4, 10, [76, 70, 68], [10]),
  (5, 0, [69, 83, 67], [27]),
  (6, 0, [68, 69, 76], [127]),
  (7, 0, [85, 80], [27, 91, 65]),
  (8, 0, [68, 79, 87, 78], [27, 91, 66]),
  (9, 0, [82, 73, 71, 72, 84], [27, 91, 67]),
  (10, 0, [76, 69, 70, 84], [27, 91, 68]),
  (11, 0, [72, 79, 77, 69], [27, 91, 72]),
  (12, 0, [69, 78, 68], [27, 91, 70]),
  (13, 0, [68, 69, 76, 69, 84, 69], [27, 91, 51, 126]),
  (14, 0, [80, 71, 85, 80], [27, 91, 53, 126]),
  (14, 1, [80, 71, 68, 78], [27, 91, 54, 126])]
def kr0 : KRow := (0, 0, [], [])
def kIs (kind v : Int) (r : KRow) : Bool := r.1 == kind && r.2.1 == v
def kFind (kind v : Int) : Option KRow := kTab.find? (kIs kind v)
def kRowOf (kind v : Int) : KRow := (kFind kind v).getD kr0
def kmB (kind v : Int) : Bool :=
  if kind = 1 then decide (32 ≤ v) && decide (v ≠ 127) && rightB v
  else if kind = 2 then ctB v
  else if kind = 3 then decide (0 ≤ v ∧ v < 128) && !lnB v
  else (kFind kind v).isSome
def keyB (k : Ky) : Bool :=
  if k.1 = 15 then decide (k.2.1 = 0) && decide (k.2.2.1.size ≤ 65536)
  else decide (k.2.2.1.size = 0) && !k.2.2.2 && kmB k.1 k.2.1
/-- What a sign is named. -/
def sgN (v : Int) : List UInt8 := if 32 < v ∧ v < 127 ∧ v ≠ 60 then [v.toNat.toUInt8] else 60 :: (hexN v 1 ++ [62])
def ctN (v : Int) : List UInt8 := if 1 ≤ v ∧ v ≤ 26 then [67, 45, (v + 96).toNat.toUInt8] else [67, 45, (v + 64).toNat.toUInt8]
def hx2 (l : List UInt8) : List UInt8 := l.flatMap fun b => hexN (b.toNat : Int) 2
def psN (t : List UInt8) (cut : Bool) : List UInt8 := 80 :: 45 :: (hx2 t ++ if cut then [33] else [])
def nmN (k : Ky) : List UInt8 :=
  if k.1 = 1 then sgN k.2.1
  else if k.1 = 2 then ctN k.2.1
  else if k.1 = 3 then 77 :: 45 :: (if 32 ≤ k.2.1 then sgN k.2.1 else ctN k.2.1)
  else if k.1 = 15 then psN k.2.2.1.data.toList k.2.2.2
  else (kRowOf k.1 k.2.1).2.2.1
/-- A key's bytes. -/
def byN (k : Ky) : List UInt8 :=
  if k.1 = 1 ∨ k.1 = 2 then (txt (oneI k.2.1)).data.toList
  else if k.1 = 3 then 27 :: (txt (oneI k.2.1)).data.toList
  else if k.1 = 15 then [27, 91, 50, 48, 48, 126] ++ k.2.2.1.data.toList ++ [27, 91, 50, 48, 49, 126]
  else (kRowOf k.1 k.2.1).2.2.2
/-- What a key is, typed as it is; below 0: nothing. -/
def vlN (k : Ky) : Int := if k.1 = 1 ∨ k.1 = 2 ∨ k.1 = 4 then k.2.1 else if k.1 = 5 then 27 else if k.1 = 6 then 127 else -1
/-- Which value is named so; -1: none. -/
def sgOf (l : List UInt8) : Int :=
  if l.length = 1 then ((l.headD 0).toNat : Int)
  else if l.length < 3 ∨ l.headD 0 ≠ 60 then -1
  else if uhE ((l.drop 1).take (l.length - 2)) = 0 then uhR ((l.drop 1).take (l.length - 2)) else -1
def ctFrom (l : List UInt8) : Nat → Nat → Int
  | 0, _ => -1
  | f + 1, v => if ctN v = l then v else ctFrom l f (v + 1)
def ctOf (l : List UInt8) : Int := ctFrom l 32 0
theorem kzero {t : ByteArray} (h : t.size = 0) : t = ⟨#[]⟩ := by
  cases t with | mk a => exact congrArg ByteArray.mk (Array.eq_empty_of_size_eq_zero h)
def k0 : Ky := (0, 0, ⟨#[]⟩, false)
/-- The bytes that pairs of digits tell; none: one tells none. -/
def bpOf (l : List UInt8) : Nat → Nat → Option (List UInt8)
  | 0, _ => some []
  | f + 1, i => if uhE ((l.drop (2 * i)).take 2) = 0 then (bpOf l f (i + 1)).map fun r => (uhR ((l.drop (2 * i)).take 2)).toNat.toUInt8 :: r else none
def psCut (l : List UInt8) : List UInt8 × Bool := if l.getLast? = some 33 then (l.dropLast, true) else (l, false)
def psOf (l : List UInt8) : Ky :=
  match bpOf (psCut l).1 ((psCut l).1.length / 2) 0 with
  | none => k0
  | some t => (15, 0, ⟨t.toArray⟩, (psCut l).2)
def kNamed (l : List UInt8) : Option KRow := kTab.find? fun r => r.2.2.1 == l
def kyOf (l : List UInt8) : Ky :=
  match kNamed l with
  | some r => (r.1, r.2.1, ⟨#[]⟩, false)
  | none =>
    if [80, 45] <+: l then psOf (l.drop 2)
    else if [77, 45, 67, 45] <+: l then (3, ctOf (l.drop 2), ⟨#[]⟩, false)
    else if [77, 45] <+: l then (3, sgOf (l.drop 2), ⟨#[]⟩, false)
    else if [67, 45] <+: l then (2, ctOf l, ⟨#[]⟩, false)
    else (1, sgOf l, ⟨#[]⟩, false)
/-- The key of a name, and the error. -/
def prOk (l : List UInt8) : Bool := keyB (kyOf l) && nmN (kyOf l) == l
def prK (l : List UInt8) : Ky := if prOk l then kyOf l else k0
def prE (l : List UInt8) : Int := if prOk l then 0 else 6
theorem right_le {v : Int} (h : rightB v = true) : 0 ≤ v ∧ v ≤ 1114367 := by
  unfold rightB at h; rw [Bool.or_eq_true, ptB_iff, stB_iff] at h; omega
theorem hexN_short (v : Int) (h0 : 0 ≤ v) (h : v ≤ 1114367) : (hexN v 1).length ≤ 6 := by
  have e : ∀ n : Nat, n < 16777216 → (tell 16 20 n 1).length ≤ 6 := by
    intro n hn
    rw [show (20 : Nat) = 14 + 6 by rfl]
    have key : ∀ k f n : Nat, n < 16 ^ k → 1 ≤ k → (tell 16 (f + k) n 1).length ≤ k ∧ (tell 16 (f + k) n 0).length ≤ k := by
      intro k
      induction k with
      | zero => intro f n _ h; omega
      | succ k ih =>
        intro f n hn _
        by_cases hk : k = 0
        · subst hk
          have h16 : n < 16 := by simpa using hn
          have hd : n / 16 = 0 := by omega
          have z : ∀ f, tell 16 f 0 0 = [] := by intro f; cases f <;> simp [tell]
          constructor
          · show (tell 16 (f + 0 + 1) n 1).length ≤ 1
            rw [tell, if_neg (by omega), hd]; simp [z]
          · show (tell 16 (f + 0 + 1) n 0).length ≤ 1
            rw [tell]; split
            · simp
            · rw [hd]; simp [z]
        · have hq : n / 16 < 16 ^ k := by rw [Nat.pow_succ] at hn; omega
          have ⟨h1, h2⟩ := ih f (n / 16) hq (by omega)
          constructor
          · show (tell 16 (f + k + 1) n 1).length ≤ k + 1
            rw [tell, if_neg (by omega), List.length_append]; simp; exact h2
          · show (tell 16 (f + k + 1) n 0).length ≤ k + 1
            rw [tell]; split
            · simp
            · rw [List.length_append]; simp; exact h2
    exact (key 6 14 n hn (by omega)).1
  unfold hexN
  rw [show (max (1 : Int) 1).toNat = 1 by omega]
  exact e v.toNat (by omega)
theorem u8_of (v : Int) (h0 : 0 ≤ v) (h1 : v < 256) : ((v.toNat.toUInt8).toNat : Int) = v := by
  rw [u8_nat h0 h1]; omega
theorem sgOf_sgN (v : Int) (h0 : 32 ≤ v) (h1 : v ≤ 1114367) : sgOf (sgN v) = v := by
  unfold sgN
  split
  · rename_i h
    unfold sgOf
    rw [if_pos (show [v.toNat.toUInt8].length = 1 from rfl)]
    exact u8_of v (by omega) (by omega)
  · have hn := hexN_ne v 1
    have hl := hexN_short v (by omega) h1
    have hp : 0 < (hexN v 1).length := List.length_pos_iff.2 hn
    have ⟨u1, u2⟩ := uh_hex v 1 (by omega) (by omega) (by omega)
    have e : (((60 : UInt8) :: (hexN v 1 ++ [62])).drop 1).take (((60 : UInt8) :: (hexN v 1 ++ [62])).length - 2) = hexN v 1 := by
      simp
    unfold sgOf
    rw [e, if_neg (by simp <;> omega), if_neg (by simp <;> omega), u1, u2, if_pos rfl]
theorem ctOf_ctN (v : Int) (h0 : 0 ≤ v) (h1 : v < 32) : ctOf (ctN v) = v := by
  have key : ∀ j : Fin 32, ctOf (ctN ((j : Nat) : Int)) = ((j : Nat) : Int) := by decide
  have := key ⟨v.toNat, by omega⟩
  rwa [show (((⟨v.toNat, by omega⟩ : Fin 32) : Nat) : Int) = v by simp; omega] at this
theorem hex2 (b : UInt8) : (hexN (b.toNat : Int) 2).length = 2 ∧ uhE (hexN (b.toNat : Int) 2) = 0 ∧ uhR (hexN (b.toNat : Int) 2) = b.toNat ∧ (hexN (b.toNat : Int) 2).getLast? ≠ some 33 := by
  have hb : b.toNat < 256 := b.toNat_lt
  have key : ∀ n : Fin 256, (tell 16 20 n 2).length = 2 ∧ (tell 16 20 n 2).getLast? ≠ some 33 := by decide
  have hx : hexN (b.toNat : Int) 2 = tell 16 20 b.toNat 2 := by
    unfold hexN; rw [show (max (2 : Int) 1).toNat = 2 by omega]; rfl
  have ⟨k1, k2⟩ := key ⟨b.toNat, hb⟩
  have ⟨u1, u2⟩ := uh_hex (b.toNat : Int) 2 (by omega) (by omega) (by rw [hx]; rw [show (tell 16 20 b.toNat 2).length = 2 from k1]; omega)
  exact ⟨by rw [hx]; exact k1, u2, u1, by rw [hx]; exact k2⟩
theorem hx2_len (t : List UInt8) : (hx2 t).length = 2 * t.length := by
  induction t with
  | nil => rfl
  | cons b t ih => show (hexN (b.toNat : Int) 2 ++ hx2 t).length = _; rw [List.length_append, ih, (hex2 b).1]; simp; omega
theorem bpOf_hx2 (p t : List UInt8) : bpOf (hx2 (p ++ t)) t.length p.length = some t := by
  induction t generalizing p with
  | nil => rfl
  | cons b t ih =>
    have e : ((hx2 (p ++ b :: t)).drop (2 * p.length)).take 2 = hexN (b.toNat : Int) 2 := by
      have h1 : hx2 (p ++ b :: t) = hx2 p ++ (hexN (b.toNat : Int) 2 ++ hx2 t) := by unfold hx2; rw [List.flatMap_append]; rfl
      rw [h1, ← hx2_len p, List.drop_left, show 2 = (hexN (b.toNat : Int) 2).length from (hex2 b).1.symm, List.take_left]
    have h := ih (p ++ [b])
    rw [show p ++ [b] ++ t = p ++ b :: t by simp, show (p ++ [b]).length = p.length + 1 by simp] at h
    show (if uhE _ = 0 then _ else _) = _
    rw [e, if_pos (hex2 b).2.1, h, (hex2 b).2.2.1]
    have : ((b.toNat : Int)).toNat.toUInt8 = b := by simp
    simp [this]
theorem hx2_last (t : List UInt8) : (hx2 t).getLast? ≠ some 33 := by
  induction t with
  | nil => decide
  | cons b t ih =>
    show (hexN (b.toNat : Int) 2 ++ hx2 t).getLast? ≠ some 33
    rw [List.getLast?_append]
    cases h : (hx2 t).getLast? with
    | none => simpa using (hex2 b).2.2.2
    | some x => rw [h] at ih; simpa using ih
theorem psOf_psN (t : List UInt8) (cut : Bool) : psOf (hx2 t ++ if cut then [33] else []) = (15, 0, ⟨t.toArray⟩, cut) := by
  have e : psCut (hx2 t ++ if cut then [33] else []) = (hx2 t, cut) := by
    unfold psCut
    cases cut with
    | false => simp only [if_neg (show ¬ (false = true) by decide), List.append_nil]; rw [if_neg (hx2_last t)]
    | true => simp
  have hb := bpOf_hx2 [] t
  have hl : (hx2 t).length / 2 = t.length := by rw [hx2_len]; omega
  unfold psOf
  rw [e]
  dsimp only
  rw [hl, show bpOf (hx2 t) t.length 0 = some t from hb]
theorem kNamed_of {l : List UInt8} (h : ∀ r ∈ kTab, r.2.2.1 ≠ l) : kNamed l = none := by
  unfold kNamed
  rw [List.find?_eq_none]
  intro r hr; simpa using h r hr
theorem kTab_heads (r : KRow) (h : r ∈ kTab) : 2 ≤ r.2.2.1.length ∧ r.2.2.1.head? ≠ some 60 ∧ r.2.2.1.head? ≠ some 67 ∧ r.2.2.1.head? ≠ some 77 ∧ r.2.2.1[1]? ≠ some 45 := by
  revert r; decide
theorem find_ok {kind v : Int} {r : KRow} (h : kFind kind v = some r) : r ∈ kTab ∧ r.1 = kind ∧ r.2.1 = v := by
  have h1 := List.mem_of_find?_eq_some h
  have h2 := List.find?_some h
  unfold kIs at h2
  simp at h2
  exact ⟨h1, h2⟩
theorem named_back (r : KRow) (h : r ∈ kTab) : kNamed r.2.2.1 = some r := by revert r; decide
theorem ctN_cons (v : Int) : ∃ c, ctN v = [67, 45, c] := by unfold ctN; split <;> exact ⟨_, rfl⟩
theorem sgN_form (v : Int) : (∃ c, sgN v = [c]) ∨ ∃ l, sgN v = 60 :: l ∧ 2 ≤ l.length := by
  unfold sgN; split
  · exact Or.inl ⟨_, rfl⟩
  · refine Or.inr ⟨_, rfl, ?_⟩
    have := List.length_pos_iff.2 (hexN_ne v 1)
    simp; omega
theorem kyOf_nmN (k : Ky) (h : keyB k = true) : kyOf (nmN k) = k := by
  obtain ⟨kind, v, t, c⟩ := k
  by_cases h15 : kind = 15
  · subst h15
    unfold keyB at h
    dsimp only at h
    rw [if_pos rfl] at h
    simp at h
    obtain ⟨rfl, _⟩ := h
    have e : nmN (15, 0, t, c) = 80 :: 45 :: (hx2 t.data.toList ++ if c then [33] else []) := rfl
    rw [e]
    unfold kyOf
    rw [kNamed_of (fun r hr he => (kTab_heads r hr).2.2.2.2 (by rw [he]; rfl))]
    dsimp only
    rw [if_pos (by exact ⟨_, rfl⟩)]
    have e2 : List.drop 2 (80 :: 45 :: (hx2 t.data.toList ++ if c = true then [33] else [])) = hx2 t.data.toList ++ if c = true then [33] else [] := rfl
    rw [e2, psOf_psN]
  · unfold keyB at h
    dsimp only at h
    rw [if_neg h15] at h
    simp at h
    obtain ⟨⟨ht, rfl⟩, hm⟩ := h
    obtain rfl : t = ⟨#[]⟩ := ht
    by_cases h1 : kind = 1
    · subst h1
      unfold kmB at hm
      rw [if_pos rfl] at hm
      simp at hm
      have hr := right_le hm.2
      have e : nmN (1, v, ⟨#[]⟩, false) = sgN v := rfl
      rw [e]
      have hs := sgOf_sgN v hm.1.1 hr.2
      unfold kyOf
      rcases sgN_form v with ⟨x, hx⟩ | ⟨l, hx, hl⟩
      · rw [kNamed_of (fun r hr he => by have := (kTab_heads r hr).1; rw [he, hx] at this; simp at this)]
        dsimp only
        rw [hx] at hs ⊢
        rw [if_neg (fun ⟨s, h⟩ => by simp at h), if_neg (fun ⟨s, h⟩ => by simp at h), if_neg (fun ⟨s, h⟩ => by simp at h), if_neg (fun ⟨s, h⟩ => by simp at h), hs]
      · rw [kNamed_of (fun r hr he => (kTab_heads r hr).2.1 (by rw [he, hx]; rfl))]
        dsimp only
        rw [hx] at hs ⊢
        rw [if_neg (fun ⟨s, h⟩ => by simp at h), if_neg (fun ⟨s, h⟩ => by simp at h), if_neg (fun ⟨s, h⟩ => by simp at h), if_neg (fun ⟨s, h⟩ => by simp at h), hs]
    by_cases h2 : kind = 2
    · subst h2
      unfold kmB at hm
      rw [if_neg (by decide), if_pos rfl] at hm
      have hv : 0 ≤ v ∧ v ≤ 31 := by unfold ctB at hm; simp at hm; exact hm.1
      have e : nmN (2, v, ⟨#[]⟩, false) = ctN v := rfl
      rw [e]
      have hs := ctOf_ctN v hv.1 (by omega)
      obtain ⟨x, hx⟩ := ctN_cons v
      unfold kyOf
      rw [kNamed_of (fun r hr he => (kTab_heads r hr).2.2.1 (by rw [he, hx]; rfl))]
      dsimp only
      rw [hx] at hs ⊢
      rw [if_neg (fun ⟨s, h⟩ => by simp at h), if_neg (fun ⟨s, h⟩ => by simp at h), if_neg (fun ⟨s, h⟩ => by simp at h), if_pos (by exact ⟨_, rfl⟩), hs]
    by_cases h3 : kind = 3
    · subst h3
      unfold kmB at hm
      rw [if_neg (by decide), if_neg (by decide), if_pos rfl] at hm
      have hv : 0 ≤ v ∧ v < 128 := by simp at hm; exact hm.1
      have e : nmN (3, v, ⟨#[]⟩, false) = 77 :: 45 :: (if 32 ≤ v then sgN v else ctN v) := rfl
      rw [e]
      unfold kyOf
      rw [kNamed_of (fun r hr he => (kTab_heads r hr).2.2.2.1 (by rw [he]; rfl))]
      dsimp only
      rw [if_neg (fun ⟨s, h⟩ => by simp at h)]
      by_cases hb : 32 ≤ v
      · rw [if_pos hb]
        have hs := sgOf_sgN v hb (by omega)
        rw [if_neg (fun ⟨s, h⟩ => by
          rcases sgN_form v with ⟨x, hx⟩ | ⟨l, hx, hl⟩
          · rw [hx] at h; simp at h
          · rw [hx] at h; simp at h), if_pos (by exact ⟨_, rfl⟩)]
        show (3, sgOf (sgN v), _, _) = _
        rw [hs]
      · rw [if_neg hb]
        have hs := ctOf_ctN v hv.1 (by omega)
        obtain ⟨x, hx⟩ := ctN_cons v
        rw [if_pos (by rw [hx]; exact ⟨[x], rfl⟩)]
        show (3, ctOf (ctN v), _, _) = _
        rw [hs]
    · unfold kmB at hm
      rw [if_neg h1, if_neg h2, if_neg h3] at hm
      obtain ⟨r, hr⟩ := Option.isSome_iff_exists.1 hm
      have ⟨hmem, e1, e2⟩ := find_ok hr
      have e : nmN (kind, v, ⟨#[]⟩, false) = r.2.2.1 := by
        show (if kind = 1 then _ else if kind = 2 then _ else if kind = 3 then _ else if kind = 15 then _ else _) = _
        rw [if_neg h1, if_neg h2, if_neg h3, if_neg h15]
        show (kRowOf kind v).2.2.1 = _
        unfold kRowOf; rw [hr]; rfl
      rw [e]
      unfold kyOf
      rw [named_back r hmem]
      dsimp only
      rw [e1, e2]
theorem parse_name (k : Ky) (h : keyB k = true) : prK (nmN k) = k ∧ prE (nmN k) = 0 := by
  have e := kyOf_nmN k h
  have ok : prOk (nmN k) = true := by unfold prOk; rw [e, h]; simp
  unfold prK prE
  rw [ok]
  exact ⟨by rw [if_pos rfl, e], rfl⟩
theorem parse_cases (l : List UInt8) : (prE l = 0 ∧ keyB (prK l) = true ∧ nmN (prK l) = l) ∨ (prE l = 6 ∧ prK l = k0) := by
  cases h : prOk l with
  | true =>
    left
    unfold prE prK
    rw [h]
    unfold prOk at h
    simp at h
    exact ⟨rfl, h.1, h.2⟩
  | false => right; unfold prE prK; rw [h]; exact ⟨rfl, rfl⟩
end Go.Proofs.YtmnjafceenckpaaDoor
set_option linter.unusedVariables false
set_option linter.unusedSimpArgs false
namespace Go.Proofs.YtmnjafceenckpaaDoor
open Go.RowKit
theorem blk_alloc {w : World} {g : Nat} {o : Obj} (h : w.heap[g]? = some o) (o' : Obj) : (w.alloc o').heap[g]? = some o :=
  (Below.heap_alloc w o' g (by
    rcases Nat.lt_or_ge g w.heap.size with h1 | h1
    · exact h1
    · rw [Array.getElem?_eq_none h1] at h; cases h)).trans h
theorem blk_set {w : World} {g : Nat} {cs : Array Value} {t : TypeId} {f : Nat × Nat} (h : w.heap[g]? = some (.cells cs t f)) (i : Nat) (u : Value) : (w.setCell ⟨g, i, none⟩ u).heap[g]? = some (.cells (cs.setIfInBounds i u) t f) := by
  simp [World.setCell, Array.getElem?_modify, h]
theorem blk_far {w : World} {g : Nat} {o : Obj} {p : Addr} (h : w.heap[g]? = some o) (hp : g ≠ p.block) (u : Value) : (w.setCell p u).heap[g]? = some o := (Below.heap_setCell w p u g hp).trans h
theorem blk_lt {w : World} {g : Nat} {o : Obj} (h : w.heap[g]? = some o) : g < w.heap.size := by
  rcases Nat.lt_or_ge g w.heap.size with h1 | h1
  · exact h1
  · rw [Array.getElem?_eq_none h1] at h; cases h
theorem blk_below {w w' : World} {g : Nat} {o : Obj} (h : w.heap[g]? = some o) (hb : Below w.heap.size w w') : w'.heap[g]? = some o := (hb.block g (blk_lt h)).trans h
theorem ownsRow_pos {w : World} {base : Nat} {e : TypeId} {size : Nat} {v : Value} {n : Nat} {xs : List Value} (h : w.ownsRow base e size v n xs) (hn : 0 < n) : ∃ g cap, v = .slice (some ⟨g, 0, none⟩) n cap := by
  rcases h.2 with ⟨_, h0⟩ | ⟨g, cap, _, rfl, _⟩
  · omega
  · exact ⟨g, cap, rfl⟩
/-- May a sign be? -/
def sgR (v l : Int) : Bool := decide (0 ≤ l) && (decide (l ≤ 5) && rightB v)
theorem getD_mem {l : List (Int × Int)} {k : Nat} (h : k < l.length) : l.getD k (0, 0) ∈ l := by
  rw [List.getD, List.getElem?_eq_getElem h]; exact List.getElem_mem h
/-- May all signs be? -/
def sgC (l : List (Int × Int)) : Bool := l.all fun p => sgR p.1 p.2
def sgE (l : List (Int × Int)) : Int := if sgC l = true then 0 else 2
theorem sgE_no {l : List (Int × Int)} (h : sgC l = false) : sgE l = 2 := by unfold sgE; rw [h]; rfl
theorem sgE_yes {l : List (Int × Int)} (h : sgC l = true) : sgE l = 0 := by unfold sgE; rw [h]; rfl
end Go.Proofs.YtmnjafceenckpaaDoor
set_option linter.unusedVariables false
set_option linter.unusedSimpArgs false
namespace Go.Proofs.YtmnjafceenckpaaDoor
open Go.RowKit
/-- A make of elements of several cells. -/
theorem make_rowN {P : Program} (t e : TypeId) (i : TypeInfo) (z : Value) (ht : P.underlying t = some (.slice e)) (hi : P.info? e = some i) (hz : i.zero = some z)
    (n : Nat) (hb : i.bytes * n ≤ 281474976710656) (h63 : n ≤ 9223372036854775807) (w : World) :
    (Instr.makeSlice t (.int .i64 (n : Int)) (.int .i64 (n : Int))).run P w = .ok (.slice (some ⟨w.heap.size, 0, none⟩) n n) (w.alloc (.cells (madeCells z.cells (n * i.size)) e)) := by
  have h := run_make (P := P) w t e i z ht hi hz .i64 .i64 (n : Int) (n : Int) (by omega) (by omega) (by
    have : ((i.bytes * n : Nat) : Int) ≤ 281474976710656 := by omega
    rwa [Int.natCast_mul] at this) (by omega)
  simpa only [Int.toNat_natCast] using h
theorem infoSign : (Tryd.prog.info? 84).map (fun i => (i.zero, i.size, i.bytes)) = some (some (.agg #[.int .i64 0, .int .i64 0]), 2, 16) := by kernel_rfl
theorem made_signs (n : Nat) : madeCells #[.int .i64 0, .int .i64 0] (n * 2) = sRow (List.replicate n (0, 0)) := by
  apply Array.ext
  · simp [madeCells, sRow, List.length_flatMap]
  · intro i h1 h2
    simp only [madeCells, Array.getElem_map, Array.getElem_range]
    have hi : i < n * 2 := by simpa [madeCells] using h1
    have hlt : i / 2 < (List.replicate n ((0 : Int), (0 : Int))).length := by simp; omega
    have h := sRow_at (List.replicate n ((0 : Int), (0 : Int))) (i / 2) hlt
    have hz : (List.replicate n ((0 : Int), (0 : Int))).getD (i / 2) (0, 0) = (0, 0) := by
      rw [List.getD, List.getElem?_replicate]; split <;> rfl
    rw [hz] at h
    have e : (sRow (List.replicate n ((0 : Int), (0 : Int))))[i]? = some (.int .i64 0) := by
      rw [sRow, List.getElem?_toArray]
      rcases Nat.mod_two_eq_zero_or_one i with hm | hm
      · have : i / 2 * 2 = i := by omega
        rw [this] at h; exact h.1
      · have : i / 2 * 2 + 1 = i := by omega
        rw [this] at h; exact h.2
    have e2 := Array.getElem?_eq_getElem h2
    rw [e] at e2
    injection e2 with e2
    rw [← e2]
    rcases Nat.mod_two_eq_zero_or_one i with hm | hm <;> simp [hm]
theorem sRow_set (L : List (Int × Int)) (k : Nat) (p : Int × Int) (h : k < L.length) : ((sRow L).setIfInBounds (k * 2) (.int .i64 p.1)).setIfInBounds (k * 2 + 1) (.int .i64 p.2) = sRow (L.set k p) := by
  apply Array.ext'
  simp only [sRow, Array.toList_setIfInBounds]
  induction L generalizing k with
  | nil => simp at h
  | cons x L ih =>
    cases k with
    | zero => rfl
    | succ k =>
      have := ih k (by simpa using h)
      rw [show (k + 1) * 2 = k * 2 + 1 + 1 by omega]
      simp only [List.flatMap_cons, List.cons_append, List.nil_append, List.set_cons_succ, this]
theorem sg_cells {w : World} {g k : Nat} {L : List (Int × Int)} {t : TypeId} {f : Nat × Nat} (h : w.heap[g]? = some (.cells (sRow L) t f)) (hk : k < L.length) :
    w.cell? ⟨g, k * 2, none⟩ = some (.int .i64 (L.getD k (0, 0)).1) ∧ w.cell? ⟨g, k * 2 + 1, none⟩ = some (.int .i64 (L.getD k (0, 0)).2) := by
  have hh := sRow_at L k hk
  rw [cell_of_row _ _ _ _ _ _ h, cell_of_row _ _ _ _ _ _ h, sRow, List.getElem?_toArray, List.getElem?_toArray]
  exact hh
theorem put_snoc {α β : Type} (l : List α) (f : α → β) (z : β) (d : α) (k : Nat) (h : k < l.length) :
    ((l.take k).map f ++ List.replicate (l.length - k) z).set k (f (l.getD k d)) = (l.take (k + 1)).map f ++ List.replicate (l.length - (k + 1)) z := by
  have hl : ((l.take k).map f).length = k := by simp; omega
  rw [List.set_append_right _ _ (by omega), hl, Nat.sub_self, List.take_succ_eq_append_getElem h, List.map_append, List.append_assoc]
  congr 1
  obtain ⟨m, hm⟩ : ∃ m, l.length - k = m + 1 := ⟨l.length - k - 1, by omega⟩
  have hm2 : l.length - (k + 1) = m := by omega
  rw [hm, hm2, List.replicate_succ, List.set_cons_zero, List.getD, List.getElem?_eq_getElem h]; rfl
theorem infoIntS : (Tryd.prog.info? 3).map (fun i => (i.zero, i.size, i.bytes)) = some (some (.int .i64 0), 1, 8) := by kernel_rfl
theorem made_ints (n : Nat) : madeCells #[.int .i64 0] (n * 1) = iRow (List.replicate n 0) := by
  apply Array.ext'
  rw [toList_madeCells_one]; simp [iRow]
theorem i_cell {w : World} {g k : Nat} {L : List Int} {t : TypeId} {f : Nat × Nat} (h : w.heap[g]? = some (.cells (iRow L) t f)) (hk : k < L.length) :
    w.cell? ⟨g, k, none⟩ = some (.int .i64 (L.getD k 0)) := by
  rw [cell_of_row _ _ _ _ _ _ h, iRow_at L k hk]
/-- A slice of numbers, out of a block. -/
theorem row_of_blk {w : World} {g : Nat} {L : List Int} {t : TypeId} {f : Nat × Nat} (h : w.heap[g]? = some (.cells (iRow L) t f)) : Row w (some ⟨g, 0, none⟩) L := fun j hj =>
  ⟨g, 0, rfl, by rw [Nat.zero_add]; exact i_cell h hj, blk_lt h⟩
theorem signs_of_blk {w : World} {g : Nat} {L : List (Int × Int)} {t : TypeId} {f : Nat × Nat} (h : w.heap[g]? = some (.cells (sRow L) t f)) : Signs w (some ⟨g, 0, none⟩) L := fun j hj =>
  ⟨g, 0, rfl, blk_lt h, by rw [Nat.zero_add]; exact (sg_cells h hj).1, by rw [Nat.zero_add]; exact (sg_cells h hj).2⟩
theorem app_cells {w : World} {h : Nat} {L : List Value} {t : TypeId} (hh : w.heap.size = h) {j : Nat} {x : Value} (hj : L[j]? = some x) : (w.alloc (.cells L.toArray t)).cell? ((⟨h, 0, none⟩ : Addr).add j) = some x := by
  subst hh
  have hadd : (⟨w.heap.size, 0, none⟩ : Addr).add j = ⟨w.heap.size, 0 + j, none⟩ := by unfold Addr.add; split <;> simp_all
  rw [hadd, World.cell?_alloc_new, Nat.zero_add, List.getElem?_toArray]; exact hj
end Go.Proofs.YtmnjafceenckpaaDoor
set_option linter.unusedVariables false
set_option linter.unusedSimpArgs false
namespace Go.Proofs.YtmnjafceenckpaaDoor
def vsL (l : List (Int × Int)) : List Int := l.map (·.1)
theorem vsL_len (l : List (Int × Int)) : (vsL l).length = l.length := by simp [vsL]
theorem vsL_at (l : List (Int × Int)) (j : Nat) (h : j < l.length) : (vsL l).getD j 0 = (l.getD j (0, 0)).1 := by
  rw [vsL, List.getD, List.getD, List.getElem?_map, List.getElem?_eq_getElem h]; rfl
def cmn : List Int → List Int → Nat
  | x :: xs, y :: ys => if x = y then cmn xs ys + 1 else 0
  | _, _ => 0
theorem cmn_is : ∀ (a b : List Int) (n : Nat), n ≤ a.length → n ≤ b.length → (∀ j, j < n → a.getD j 0 = b.getD j 0) → (n = a.length ∨ n = b.length ∨ a.getD n 0 ≠ b.getD n 0) → cmn a b = n
  | [], b, n, h1, h2, _, _ => by simp at h1; subst h1; cases b <;> rfl
  | x :: xs, [], n, h1, h2, _, _ => by simp at h2; subst h2; rfl
  | x :: xs, y :: ys, 0, _, _, _, h => by
    have hne : x ≠ y := by
      rcases h with h | h | h
      · simp at h
      · simp at h
      · exact h
    show (if x = y then _ else 0) = 0
    rw [if_neg hne]
  | x :: xs, y :: ys, n + 1, h1, h2, h3, h4 => by
    have hxy : x = y := h3 0 (by omega)
    show (if x = y then cmn xs ys + 1 else 0) = n + 1
    rw [if_pos hxy, cmn_is xs ys n (by simpa using h1) (by simpa using h2) (fun j hj => h3 (j + 1) (by omega)) (by
      rcases h4 with h | h | h
      · exact Or.inl (by simpa using h)
      · exact Or.inr (Or.inl (by simpa using h))
      · exact Or.inr (Or.inr h))]
theorem cmn_le : ∀ a b : List Int, cmn a b ≤ a.length ∧ cmn a b ≤ b.length
  | [], b => by cases b <;> exact ⟨Nat.zero_le _, Nat.zero_le _⟩
  | x :: xs, [] => ⟨Nat.zero_le _, Nat.zero_le _⟩
  | x :: xs, y :: ys => by
    have h := cmn_le xs ys
    show (if x = y then cmn xs ys + 1 else 0) ≤ _ ∧ (if x = y then cmn xs ys + 1 else 0) ≤ _
    split
    · simp only [List.length_cons]; omega
    · exact ⟨Nat.zero_le _, Nat.zero_le _⟩
theorem cmn_take : ∀ (a b : List Int) (n : Nat), n ≤ cmn a b → a.take n = b.take n
  | a, b, 0, _ => rfl
  | [], b, n + 1, h => by cases b <;> exact absurd h (by show ¬ n + 1 ≤ 0; omega)
  | x :: xs, [], n + 1, h => absurd h (by show ¬ n + 1 ≤ 0; omega)
  | x :: xs, y :: ys, n + 1, h => by
    change n + 1 ≤ (if x = y then cmn xs ys + 1 else 0) at h
    split at h
    · rename_i e; rw [e, List.take_succ_cons, List.take_succ_cons, cmn_take xs ys n (by omega)]
    · omega
theorem cmn_ge : ∀ (a b : List Int) (n : Nat), n ≤ a.length → n ≤ b.length → a.take n = b.take n → n ≤ cmn a b
  | _, _, 0, _, _, _ => Nat.zero_le _
  | [], b, n + 1, h, _, _ => by simp at h
  | x :: xs, [], n + 1, _, h, _ => by simp at h
  | x :: xs, y :: ys, n + 1, h1, h2, h3 => by
    rw [List.take_succ_cons, List.take_succ_cons] at h3
    injection h3 with e1 e2
    show n + 1 ≤ (if x = y then cmn xs ys + 1 else 0)
    rw [if_pos e1]
    have := cmn_ge xs ys n (by simpa using h1) (by simpa using h2) e2
    omega
/-- A candidate that is offered for a word, if it has not been. -/
def okC (w c : List (Int × Int)) : Bool := decide (w.length < c.length) && (decide (c.length ≤ 4096) && (decide (w.length ≤ cmn (vsL w) (vsL c)) && sgC c))
theorem okC_out {w c : List (Int × Int)} (h : okC w c = true) : w.length < c.length ∧ c.length ≤ 4096 ∧ w.length ≤ cmn (vsL w) (vsL c) ∧ sgC c = true := by
  simp only [okC, Bool.and_eq_true, decide_eq_true_eq] at h; exact h
/-- Three bytes of a value. -/
def b3 (v : Int) : List UInt8 := [UInt8.ofNat (v / 65536 % 256).toNat, UInt8.ofNat (v / 256 % 256).toNat, UInt8.ofNat (v % 256).toNat]
theorem u8_inj {a b : Nat} (ha : a < 256) (hb : b < 256) (h : UInt8.ofNat a = UInt8.ofNat b) : a = b := by
  have := congrArg UInt8.toNat h
  simpa [UInt8.toNat_ofNat', Nat.mod_eq_of_lt ha, Nat.mod_eq_of_lt hb] using this
theorem b3_inj {v u : Int} (h1 : 0 ≤ v) (h2 : v < 16777216) (h3 : 0 ≤ u) (h4 : u < 16777216) (h : b3 v = b3 u) : v = u := by
  simp only [b3, List.cons.injEq, and_true] at h
  obtain ⟨e1, e2, e3⟩ := h
  have f1 := u8_inj (by omega) (by omega) e1
  have f2 := u8_inj (by omega) (by omega) e2
  have f3 := u8_inj (by omega) (by omega) e3
  omega
def tx3 (l : List Int) : List UInt8 := l.flatMap b3
theorem tx3_inj : ∀ {l m : List Int}, (∀ v ∈ l, 0 ≤ v ∧ v < 16777216) → (∀ v ∈ m, 0 ≤ v ∧ v < 16777216) → tx3 l = tx3 m → l = m
  | [], [], _, _, _ => rfl
  | [], y :: ys, _, _, h => by simp [tx3, b3] at h
  | x :: xs, [], _, _, h => by simp [tx3, b3] at h
  | x :: xs, y :: ys, h1, h2, h => by
    have e : b3 x ++ tx3 xs = b3 y ++ tx3 ys := by simpa [tx3] using h
    obtain ⟨e1, e2⟩ := List.append_inj e rfl
    have hx := h1 x (List.mem_cons_self ..); have hy := h2 y (List.mem_cons_self ..)
    rw [b3_inj hx.1 hx.2 hy.1 hy.2 e1, tx3_inj (fun v hv => h1 v (List.mem_cons_of_mem _ hv)) (fun v hv => h2 v (List.mem_cons_of_mem _ hv)) e2]
theorem sgC_vals {l : List (Int × Int)} (h : sgC l = true) : ∀ v ∈ vsL l, 0 ≤ v ∧ v < 16777216 := by
  intro v hv
  obtain ⟨p, hp, rfl⟩ := List.mem_map.1 hv
  have := List.all_eq_true.1 h p hp
  simp only [sgR, Bool.and_eq_true] at this
  have h2 := this.2.2
  unfold rightB at h2
  rw [Bool.or_eq_true, ptB_iff, stB_iff] at h2
  omega
def w4 (c : List (Int × Int)) : List (Int × Int) := c.map fun s => (s.1, 4)
theorem w4_len (c : List (Int × Int)) : (w4 c).length = c.length := by simp [w4]
theorem w4_vs (c : List (Int × Int)) : vsL (w4 c) = vsL c := by simp [w4, vsL]
def was (st : List (List (Int × Int))) (c : List (Int × Int)) : Bool := st.any fun t => decide (vsL t = vsL c)
def offStep (w : List (Int × Int)) (st : List (List (Int × Int))) (c : List (Int × Int)) : List (List (Int × Int)) := if okC w c && !was st c then st ++ [w4 c] else st
def offK (w : List (Int × Int)) (cands : List (List (Int × Int))) (k : Nat) : List (List (Int × Int)) := (cands.take k).foldl (offStep w) []
theorem offK_next (w : List (Int × Int)) (cands : List (List (Int × Int))) (k : Nat) (h : k < cands.length) : offK w cands (k + 1) = offStep w (offK w cands k) (cands.getD k []) := by
  rw [offK, List.take_add_one, List.getElem?_eq_getElem h, List.foldl_append, List.getD, List.getElem?_eq_getElem h]; rfl
theorem offK_len (w : List (Int × Int)) (cands : List (List (Int × Int))) : ∀ k, k ≤ cands.length → (offK w cands k).length ≤ k
  | 0, _ => by simp [offK]
  | k + 1, h => by
    rw [offK_next w cands k (by omega)]
    have := offK_len w cands k (by omega)
    unfold offStep
    split
    · simp; omega
    · omega
/-- The texts that were seen. -/
def sawK (w : List (Int × Int)) (cands : List (List (Int × Int))) (k : Nat) : List (List UInt8) := (cands.take k).flatMap fun c => if okC w c then [tx3 (vsL c)] else []
theorem sawK_next (w : List (Int × Int)) (cands : List (List (Int × Int))) (k : Nat) (h : k < cands.length) : sawK w cands (k + 1) = sawK w cands k ++ (if okC w (cands.getD k []) then [tx3 (vsL (cands.getD k []))] else []) := by
  rw [sawK, List.take_add_one, List.getElem?_eq_getElem h, List.flatMap_append, List.getD, List.getElem?_eq_getElem h]; simp [sawK]
structure OffOk (w : List (Int × Int)) (st : List (List (Int × Int))) : Prop where
  each : ∀ t ∈ st, okC w t = true ∧ (∀ s ∈ t, s.2 = 4)
  apart : st.Pairwise fun t u => vsL t ≠ vsL u
theorem okC_w4 {w c : List (Int × Int)} (h : okC w c = true) : okC w (w4 c) = true := by
  have := okC_out h
  have hc : sgC (w4 c) = true := by
    rw [sgC, List.all_eq_true]
    intro p hp
    obtain ⟨q, hq, rfl⟩ := List.mem_map.1 hp
    have := List.all_eq_true.1 this.2.2.2 q hq
    simp only [sgR, Bool.and_eq_true, decide_eq_true_eq] at this ⊢
    exact ⟨by decide, by decide, this.2.2⟩
  simp only [okC, Bool.and_eq_true, decide_eq_true_eq, w4_len, w4_vs]
  exact ⟨this.1, this.2.1, this.2.2.1, hc⟩
theorem was_iff {st : List (List (Int × Int))} {c : List (Int × Int)} : was st c = true ↔ ∃ t ∈ st, vsL t = vsL c := by simp [was]
theorem offStep_ok {w : List (Int × Int)} {st : List (List (Int × Int))} (h : OffOk w st) (c : List (Int × Int)) : OffOk w (offStep w st c) := by
  unfold offStep
  split
  · rename_i hc
    simp only [Bool.and_eq_true, Bool.not_eq_true'] at hc
    refine ⟨fun t ht => ?_, ?_⟩
    · rcases List.mem_append.1 ht with ht | ht
      · exact h.each t ht
      · obtain rfl : t = w4 c := by simpa using ht
        refine ⟨okC_w4 hc.1, fun s hs => ?_⟩
        obtain ⟨q, _, rfl⟩ := List.mem_map.1 hs
        rfl
    · rw [List.pairwise_append]
      refine ⟨h.apart, List.pairwise_singleton _ _, fun t ht u hu => ?_⟩
      obtain rfl : u = w4 c := by simpa using hu
      rw [w4_vs]
      intro e
      have := was_iff.2 ⟨t, ht, e⟩
      rw [hc.2] at this; cases this
  · exact h
theorem offK_ok (w : List (Int × Int)) (cands : List (List (Int × Int))) : ∀ k, k ≤ cands.length → OffOk w (offK w cands k)
  | 0, _ => ⟨fun t ht => by simp [offK] at ht, by simp [offK]⟩
  | k + 1, h => by rw [offK_next w cands k (by omega)]; exact offStep_ok (offK_ok w cands k (by omega)) _
/-- What was seen is what is offered. -/
theorem saw_was (w : List (Int × Int)) (cands : List (List (Int × Int))) : ∀ k, k ≤ cands.length → ∀ c, okC w c = true → (tx3 (vsL c) ∈ sawK w cands k ↔ was (offK w cands k) c = true)
  | 0, _, c, _ => by simp [sawK, offK, was]
  | k + 1, h, c, hc => by
    have ih := saw_was w cands k (by omega)
    rw [sawK_next w cands k (by omega), offK_next w cands k (by omega)]
    obtain ⟨d, hd⟩ : ∃ d, cands.getD k [] = d := ⟨_, rfl⟩
    rw [hd, List.mem_append, ih c hc]
    by_cases ho : okC w d = true
    · rw [if_pos ho]
      have key : tx3 (vsL c) ∈ [tx3 (vsL d)] ↔ vsL d = vsL c := by
        rw [List.mem_singleton]
        exact ⟨fun e => (tx3_inj (sgC_vals (okC_out hc).2.2.2) (sgC_vals (okC_out ho).2.2.2) e).symm, fun e => by rw [e]⟩
      rw [key]
      unfold offStep
      rw [ho, Bool.true_and]
      cases hw : was (offK w cands k) d with
      | true =>
        have : (if (!true) = true then offK w cands k ++ [w4 d] else offK w cands k) = offK w cands k := rfl
        rw [this]
        refine ⟨fun h => h.elim id (fun e => ?_), Or.inl⟩
        obtain ⟨t, ht, e2⟩ := was_iff.1 hw
        exact was_iff.2 ⟨t, ht, e2.trans e⟩
      | false =>
        have : (if (!false) = true then offK w cands k ++ [w4 d] else offK w cands k) = offK w cands k ++ [w4 d] := rfl
        rw [this, was_iff, was_iff]
        constructor
        · rintro (⟨t, ht, e⟩ | e)
          · exact ⟨t, List.mem_append_left _ ht, e⟩
          · exact ⟨w4 d, List.mem_append_right _ (List.mem_singleton.2 rfl), by rw [w4_vs]; exact e⟩
        · rintro ⟨t, ht, e⟩
          rcases List.mem_append.1 ht with ht | ht
          · exact Or.inl ⟨t, ht, e⟩
          · obtain rfl : t = w4 d := by simpa using ht
            rw [w4_vs] at e
            exact Or.inr e
    · have : offStep w (offK w cands k) d = offK w cands k := by unfold offStep; rw [Bool.eq_false_iff.2 ho]; rfl
      rw [if_neg ho, this]
      simp
/-- The stem. -/
def stm : List (List (Int × Int)) → Nat
  | [] => 0
  | t :: ts => ts.foldl (fun n c => min n (cmn (vsL t) (vsL c))) t.length
theorem cmn_self (a : List Int) : cmn a a = a.length := cmn_is a a a.length (Nat.le_refl _) (Nat.le_refl _) (fun _ _ => rfl) (Or.inl rfl)
theorem stm_one (c : List (Int × Int)) : stm [c] = c.length := rfl
theorem stm_snoc {st : List (List (Int × Int))} (h : st ≠ []) (c : List (Int × Int)) : stm (st ++ [c]) = min (stm st) (cmn (vsL (st.getD 0 [])) (vsL c)) := by
  cases st with
  | nil => exact absurd rfl h
  | cons t ts => simp [stm, List.foldl_append]
theorem stm_cons (t : List (Int × Int)) (ts : List (List (Int × Int))) (n m : Nat) : n ≤ ts.foldl (fun n c => min n (cmn (vsL t) (vsL c))) m ↔ n ≤ m ∧ ∀ c ∈ ts, n ≤ cmn (vsL t) (vsL c) := by
  induction ts generalizing m with
  | nil => simp
  | cons c ts ih => rw [List.foldl_cons, ih]; simp only [List.mem_cons, forall_eq_or_imp, Nat.le_min, and_assoc]
theorem stm_le_iff (t : List (Int × Int)) (ts : List (List (Int × Int))) (n : Nat) : n ≤ stm (t :: ts) ↔ ∀ c ∈ t :: ts, n ≤ cmn (vsL t) (vsL c) := by
  show n ≤ List.foldl _ _ _ ↔ _
  rw [stm_cons]
  simp only [List.mem_cons, forall_eq_or_imp, cmn_self, vsL_len]
theorem stm_rng {w : List (Int × Int)} {st : List (List (Int × Int))} (h : OffOk w st) (hne : st ≠ []) : w.length ≤ stm st ∧ stm st ≤ (st.getD 0 []).length := by
  cases st with
  | nil => exact absurd rfl hne
  | cons t ts =>
    constructor
    · rw [stm_le_iff]
      intro c hc
      have h1 := okC_out (h.each t (List.mem_cons_self ..)).1
      have h2 := okC_out (h.each c hc).1
      refine cmn_ge _ _ _ (by rw [vsL_len]; omega) (by rw [vsL_len]; omega) ?_
      rw [← cmn_take _ _ _ h1.2.2.1, ← cmn_take _ _ _ h2.2.2.1]
    · have := (stm_le_iff t ts (stm (t :: ts))).1 (Nat.le_refl _) t (List.mem_cons_self ..)
      rw [cmn_self, vsL_len] at this
      exact this
theorem stm_take {st : List (List (Int × Int))} {c : List (Int × Int)} (hc : c ∈ st) : (vsL c).take (stm st) = (vsL (st.getD 0 [])).take (stm st) := by
  cases st with
  | nil => cases hc
  | cons t ts => exact (cmn_take _ _ _ ((stm_le_iff t ts _).1 (Nat.le_refl _) c hc)).symm
end Go.Proofs.YtmnjafceenckpaaDoor
set_option linter.unusedVariables false
set_option linter.unusedSimpArgs false
namespace Go.Proofs.YtmnjafceenckpaaDoor
open Go.RowKit
/-- A piece: kind, two numbers, text. -/
abbrev Ot := Int × Int × Int × ByteArray
abbrev ot0 : Ot := (0, 0, 0, ⟨#[]⟩)
/-- A piece's cells, and its value in a slot. -/
def otL (p : Ot) : List Value := [.int .i64 p.1, .int .i64 p.2.1, .int .i64 p.2.2.1, .string p.2.2.2]
def otV (p : Ot) : Value := .agg #[.int .i64 p.1, .int .i64 p.2.1, .int .i64 p.2.2.1, .string p.2.2.2]
/-- A slice of pieces lies in memory. -/
def OutsIn (w : World) (a : Option Addr) (l : List Ot) : Prop :=
  ∀ i, i < l.length → ∃ b off, a = some ⟨b, off, none⟩ ∧ b < w.heap.size ∧ w.cell? ⟨b, off + i * 4, none⟩ = some (.int .i64 (l.getD i ot0).1) ∧ w.cell? ⟨b, off + i * 4 + 1, none⟩ = some (.int .i64 (l.getD i ot0).2.1) ∧
    w.cell? ⟨b, off + i * 4 + 2, none⟩ = some (.int .i64 (l.getD i ot0).2.2.1) ∧ w.cell? ⟨b, off + i * 4 + 3, none⟩ = some (.string (l.getD i ot0).2.2.2)
theorem OutsIn.below {w w' : World} {a : Option Addr} {l : List Ot} (h : OutsIn w a l) (hb : Below w.heap.size w w') : OutsIn w' a l := fun i hi => by
  obtain ⟨b, off, e, hlt, h1, h2, h3, h4⟩ := h i hi
  exact ⟨b, off, e, Nat.lt_of_lt_of_le hlt hb.size, (hb.cell (p := ⟨b, off + i * 4, none⟩) hlt).trans h1, (hb.cell (p := ⟨b, off + i * 4 + 1, none⟩) hlt).trans h2, (hb.cell (p := ⟨b, off + i * 4 + 2, none⟩) hlt).trans h3,
    (hb.cell (p := ⟨b, off + i * 4 + 3, none⟩) hlt).trans h4⟩
def oCells (L : List Ot) : List Value := L.flatMap otL
/-- A row of pieces in memory. -/
def oRow (L : List Ot) : Array Value := (oCells L).toArray
theorem oCells_len (L : List Ot) : (oCells L).length = L.length * 4 := by
  unfold oCells; induction L with
  | nil => rfl
  | cons x R ih => simp only [List.flatMap_cons, List.length_append, otL, List.length_cons, List.length_nil, ih]; omega
theorem oCells_at (L : List Ot) : ∀ i, i < L.length → (oCells L)[i * 4]? = some (.int .i64 (L.getD i ot0).1) ∧ (oCells L)[i * 4 + 1]? = some (.int .i64 (L.getD i ot0).2.1) ∧ (oCells L)[i * 4 + 2]? = some (.int .i64 (L.getD i ot0).2.2.1) ∧
    (oCells L)[i * 4 + 3]? = some (.string (L.getD i ot0).2.2.2) := by
  induction L with
  | nil => intro i hi; simp at hi
  | cons x L ih =>
    intro i hi
    cases i with
    | zero => exact ⟨rfl, rfl, rfl, rfl⟩
    | succ i =>
      have h := ih i (by simpa using hi)
      rw [show (i + 1) * 4 = i * 4 + 1 + 1 + 1 + 1 by omega]
      exact h
theorem oCells_snoc (L : List Ot) (x : Ot) : oCells (L ++ [x]) = oCells L ++ [.int .i64 x.1, .int .i64 x.2.1, .int .i64 x.2.2.1, .string x.2.2.2] := by simp [oCells, otL]
theorem oCells_append (L M : List Ot) : oCells (L ++ M) = oCells L ++ oCells M := by simp [oCells]
theorem outs_of_blk {w : World} {g : Nat} {L : List Ot} {t : TypeId} {f : Nat × Nat} (h : w.heap[g]? = some (.cells (oRow L) t f)) : OutsIn w (some ⟨g, 0, none⟩) L := fun j hj => by
  have hh := oCells_at L j hj
  refine ⟨g, 0, rfl, blk_lt h, ?_, ?_, ?_, ?_⟩
  · rw [Nat.zero_add, cell_of_row _ _ _ _ _ _ h, oRow, List.getElem?_toArray]; exact hh.1
  · rw [Nat.zero_add, cell_of_row _ _ _ _ _ _ h, oRow, List.getElem?_toArray]; exact hh.2.1
  · rw [Nat.zero_add, cell_of_row _ _ _ _ _ _ h, oRow, List.getElem?_toArray]; exact hh.2.2.1
  · rw [Nat.zero_add, cell_of_row _ _ _ _ _ _ h, oRow, List.getElem?_toArray]; exact hh.2.2.2
/-- A row of pieces of the call's own. -/
def ownT (w : World) (B : Nat) (v : Value) (L : List Ot) : Prop := w.ownsRow B 30 4 v L.length (oCells L)
theorem outs_of_own {w : World} {B : Nat} {v : Value} {L : List Ot} (h : ownT w B v L) : ∃ a c, v = .slice a L.length c ∧ OutsIn w a L := by
  unfold ownT at h
  rcases h.2 with ⟨rfl, h0⟩ | ⟨g, cap, cur, rfl, _, hg, _⟩
  · exact ⟨none, 0, by rw [h0], fun j hj => by omega⟩
  · refine ⟨_, cap, rfl, fun j hj => ⟨g, 0, rfl, blk_lt hg, ?_, ?_, ?_, ?_⟩⟩
    · rw [Nat.zero_add, h.cellAt (j * 4) (by omega)]; exact (oCells_at L j hj).1
    · rw [Nat.zero_add, h.cellAt (j * 4 + 1) (by omega)]; exact (oCells_at L j hj).2.1
    · rw [Nat.zero_add, h.cellAt (j * 4 + 2) (by omega)]; exact (oCells_at L j hj).2.2.1
    · rw [Nat.zero_add, h.cellAt (j * 4 + 3) (by omega)]; exact (oCells_at L j hj).2.2.2
theorem infoOut : (Tryd.prog.info? 30).map (fun i => (i.zero, i.size, i.bytes)) = some (some (.agg #[.int .i64 0, .int .i64 0, .int .i64 0, .string ⟨#[]⟩]), 4, 40) := by kernel_rfl
theorem toL_ne {a b : ByteArray} (h : ¬ a = b) : ¬ a.toList = b.toList := by
  rw [ByteArray.toList_eq, ByteArray.toList_eq]; intro e; exact h (ByteArray.ext (Array.ext' e))
set_option maxHeartbeats 1000000 in
theorem neqOut (k n m : Int) (t : ByteArray) (k' n' m' : Int) (t' : ByteArray) (w : World) : (binOp .neq 30 (.agg #[.int .i64 k, .int .i64 n, .int .i64 m, .string t]) (.agg #[.int .i64 k', .int .i64 n', .int .i64 m', .string t'])).run Tryd.prog w = .ok (.bool (decide (((k, n, m, t) : Ot) ≠ (k', n', m', t')))) w := by
  by_cases h1 : k = k'
  · by_cases h2 : n = n'
    · by_cases h3 : m = m'
      · by_cases h4 : t = t'
        · subst h1; subst h2; subst h3; subst h4
          simp [go_sem]
        · simp [go_sem, h1, h2, h3, h4, toL_ne h4]
      · simp [go_sem, h1, h2, h3]
    · simp [go_sem, h1, h2]
  · simp [go_sem, h1]
set_option maxHeartbeats 1000000 in
theorem eqOut (k n m : Int) (t : ByteArray) (k' n' m' : Int) (t' : ByteArray) (w : World) : (binOp .eql 30 (.agg #[.int .i64 k, .int .i64 n, .int .i64 m, .string t]) (.agg #[.int .i64 k', .int .i64 n', .int .i64 m', .string t'])).run Tryd.prog w = .ok (.bool (decide (((k, n, m, t) : Ot) = (k', n', m', t')))) w := by
  by_cases h1 : k = k'
  · by_cases h2 : n = n'
    · by_cases h3 : m = m'
      · by_cases h4 : t = t'
        · subst h1; subst h2; subst h3; subst h4
          simp [go_sem]
        · simp [go_sem, h1, h2, h3, h4, toL_ne h4]
      · simp [go_sem, h1, h2, h3]
    · simp [go_sem, h1, h2]
  · simp [go_sem, h1]
end Go.Proofs.YtmnjafceenckpaaDoor
set_option linter.unusedVariables false
set_option linter.unusedSimpArgs false
namespace Go.Proofs.YtmnjafceenckpaaDoor
open Go.RowKit
theorem own_ne_kind {w : World} {B n size b : Nat} {e T : TypeId} {v : Value} {xs : List Value} {cs : Array Value} {fr : Nat × Nat} (h : w.ownsRow B e size v n xs) (hb : w.heap[b]? = some (.cells cs T fr)) (hT : T ≠ e) : v.ownBlock ≠ some b := by
  rcases h.2 with ⟨rfl, _⟩ | ⟨g, cap, cur, rfl, _, hg, _⟩
  · simp [Value.ownBlock]
  · intro e'
    obtain rfl : g = b := by simpa [Value.ownBlock] using e'
    rw [hg] at hb; simp at hb; exact hT hb.2.1.symm
theorem own_ne_own {w : World} {B B' n n' size size' : Nat} {e e' : TypeId} {v v' : Value} {xs xs' : List Value} (h : w.ownsRow B e size v n xs) (h' : w.ownsRow B' e' size' v' n' xs') (hT : e ≠ e') : v.ownBlock = none ∨ v.ownBlock ≠ v'.ownBlock := by
  rcases h.2 with ⟨rfl, _⟩ | ⟨g, cap, cur, rfl, _, hg, _⟩
  · exact .inl rfl
  · exact .inr fun e'' => own_ne_kind h' hg hT e''.symm
theorem own_set {w : World} {B n size : Nat} {e : TypeId} {v : Value} {xs : List Value} (h : w.ownsRow B e size v n xs) {a : Addr} (ha : v.ownBlock ≠ some a.block) (u : Value) : (w.setCell a u).ownsRow B e size v n xs := by
  refine ⟨h.1, ?_⟩
  rcases h.2 with h2 | ⟨g, cap, cur, rfl, hB, hg, r⟩
  · exact .inl h2
  · exact .inr ⟨g, cap, cur, rfl, hB, by rw [Below.heap_setCell _ _ _ _ (fun e => ha (by rw [← e]; rfl))]; exact hg, r⟩
/-- A row of numbers of the call's own, read as a slice. -/
theorem row_ofI {w : World} {B : Nat} {v : Value} {L : List Int} (h : w.ownsRow B 3 1 v L.length (L.map (Value.int .i64))) : ∃ a c, v = .slice a L.length c ∧ Row w a L := by
  rcases h.2 with ⟨rfl, h0⟩ | ⟨g, cap, cur, rfl, _, hg, _⟩
  · exact ⟨none, 0, by rw [h0], fun j hj => by omega⟩
  · refine ⟨_, cap, rfl, fun j hj => ⟨g, 0, rfl, ?_, blk_lt hg⟩⟩
    rw [Nat.zero_add, h.cellAt j (by omega), List.getElem?_map, List.getD, List.getElem?_eq_getElem hj]; rfl
end Go.Proofs.YtmnjafceenckpaaDoor
set_option linter.unusedVariables false
set_option linter.unusedSimpArgs false
namespace Go.Proofs.YtmnjafceenckpaaDoor
open Go.RowKit
/-- What With has made after k rounds. -/
def wthL (l : List (Int × Int)) (u : Int) (k : Nat) : List (Int × Int) := (l.take k).map (fun p => (p.1, u)) ++ List.replicate (l.length - k) (0, 0)
theorem wthL_len (l : List (Int × Int)) (u : Int) (k : Nat) (h : k ≤ l.length) : (wthL l u k).length = l.length := by simp [wthL]; omega
/-- What Values has made after k rounds. -/
def valL (l : List (Int × Int)) (k : Nat) : List Int := (l.take k).map (·.1) ++ List.replicate (l.length - k) 0
theorem valL_len (l : List (Int × Int)) (k : Nat) (h : k ≤ l.length) : (valL l k).length = l.length := by simp [valL]; omega
/-- What signs say. -/
def sTxt (l : List (Int × Int)) : ByteArray := encS (l.map (·.1))
end Go.Proofs.YtmnjafceenckpaaDoor
set_option linter.unusedVariables false
set_option linter.unusedSimpArgs false
namespace Go.Proofs.YtmnjafceenckpaaDoor
open Go.RowKit
/-- The utf8 tables lie in memory. -/
def UT (w : World) : Prop := Lib.Utf8Tabs 2 3 w ∧ 2 < w.heap.size ∧ 3 < w.heap.size
theorem UT.below {w w' : World} (h : UT w) (hb : Below w.heap.size w w') : UT w' :=
  ⟨⟨fun c hc => (hb.cell (p := ⟨2, c, none⟩) h.2.1).trans (h.1.1 c hc), fun i hi =>
    ⟨(hb.cell (p := ⟨3, 2 * i, none⟩) h.2.2).trans (h.1.2 i hi).1,
     (hb.cell (p := ⟨3, 2 * i + 1, none⟩) h.2.2).trans (h.1.2 i hi).2⟩⟩, Nat.lt_of_lt_of_le h.2.1 hb.size, Nat.lt_of_lt_of_le h.2.2 hb.size⟩
/-- The value at a place of a text, and its size. -/
def vAt (s : ByteArray) (i : Nat) : Nat × Nat := if (Utf8.decode s i).1 = 65533 ∧ (Utf8.decode s i).2 < 3 then (1114112 + (s.get! i).toNat, 1) else Utf8.decode s i
theorem vAt_val (s : ByteArray) (i : Nat) : vAt s i = valN (s.size - i) (s.get! i).toNat (s.get! (i + 1)).toNat (s.get! (i + 2)).toNat (s.get! (i + 3)).toNat := by
  unfold vAt valN; rw [Lib.decode_at]
def Fine (x m : Nat) : Prop := (m = 1 ∧ x < 128) ∨ (m = 2 ∧ 128 ≤ x ∧ x < 2048) ∨ (m = 3 ∧ 2048 ≤ x ∧ (x < 55296 ∨ 57344 ≤ x) ∧ x ≤ 65535) ∨ (m = 4 ∧ 65536 ≤ x ∧ x ≤ 1114111)
theorem decN_cases (n b0 b1 b2 b3 : Nat) : Lib.decodeN n b0 b1 b2 b3 = (65533, 1) ∨ Fine (Lib.decodeN n b0 b1 b2 b3).1 (Lib.decodeN n b0 b1 b2 b3).2 := by
  unfold Lib.decodeN
  by_cases c0 : b0 < 128
  · right; rw [if_pos c0]; exact Or.inl ⟨rfl, c0⟩
  · rw [if_neg c0]
    by_cases c1 : b0 / 32 = 6 ∧ (1 < n ∧ b1 / 64 = 2)
    · rw [if_pos c1]
      by_cases c2 : b0 % 32 * 64 + b1 % 64 ≥ 128
      · right; rw [if_pos c2]; exact Or.inr (Or.inl ⟨rfl, c2, by show _ < 2048; omega⟩)
      · left; rw [if_neg c2]
    · rw [if_neg c1]
      by_cases c3 : b0 / 16 = 14 ∧ (1 < n ∧ b1 / 64 = 2) ∧ (2 < n ∧ b2 / 64 = 2)
      · rw [if_pos c3]
        generalize hx : b0 % 16 * 4096 + b1 % 64 * 64 + b2 % 64 = x
        have hlt : x ≤ 65535 := by omega
        by_cases c2 : x ≥ 2048 ∧ (x < 55296 ∨ (57344 ≤ x ∧ x ≤ 1114111))
        · right; rw [if_pos c2]; exact Or.inr (Or.inr (Or.inl ⟨rfl, c2.1, by show x < 55296 ∨ 57344 ≤ x; omega, hlt⟩))
        · left; rw [if_neg c2]
      · rw [if_neg c3]
        by_cases c4 : b0 / 8 = 30 ∧ (1 < n ∧ b1 / 64 = 2) ∧ (2 < n ∧ b2 / 64 = 2) ∧ (3 < n ∧ b3 / 64 = 2)
        · rw [if_pos c4]
          generalize hx : b0 % 8 * 262144 + b1 % 64 * 4096 + b2 % 64 * 64 + b3 % 64 = x
          by_cases c2 : x ≥ 65536 ∧ (x < 55296 ∨ (57344 ≤ x ∧ x ≤ 1114111))
          · right; rw [if_pos c2]; exact Or.inr (Or.inr (Or.inr ⟨rfl, c2.1, by show x ≤ 1114111; omega⟩))
          · left; rw [if_neg c2]
        · left; rw [if_neg c4]
theorem dec_cases (s : ByteArray) (i : Nat) : Utf8.decode s i = (65533, 1) ∨ Fine (Utf8.decode s i).1 (Utf8.decode s i).2 := by
  rw [Lib.decode_at]; exact decN_cases _ _ _ _ _
theorem fine_len {x m : Nat} (h : Fine x m) : Lib.runeLen (x : Int) = (m : Int) := by
  unfold Lib.runeLen
  rcases h with ⟨rfl, h⟩ | ⟨rfl, h, h'⟩ | ⟨rfl, h, h', h2⟩ | ⟨rfl, h, h'⟩
  · rw [if_neg (by omega), if_pos (by omega)]; rfl
  · rw [if_neg (by omega), if_neg (by omega), if_pos (by omega)]; rfl
  · rw [if_neg (by omega), if_neg (by omega), if_neg (by omega), if_neg (by omega), if_pos (by omega)]; rfl
  · rw [if_neg (by omega), if_neg (by omega), if_neg (by omega), if_neg (by omega), if_neg (by omega), if_pos (by omega)]; rfl
theorem ret_ii {a b c d : Int} (h : a = b) (h2 : c = d) : Ending.returned (.tuple #[.int .i64 a, .int .i64 c]) = .returned (.tuple #[.int .i64 b, .int .i64 d]) := by rw [h, h2]
set_option maxRecDepth 100000 in
set_option maxHeartbeats 1000000 in
theorem value_any (s : ByteArray) (i : Nat) (w : World) (hT : UT w) (hs : s.size ≤ 1000000) (hi : i < s.size) :
    Calls Tryd.prog 44 #[.string s, .int .i64 (i : Int), .int .i32 ((Utf8.decode s i).1 : Int)] w fun e w' => e = .returned (.tuple #[.int .i64 ((vAt s i).1 : Int), .int .i64 ((vAt s i).2 : Int)]) ∧ Below w.heap.size w w' := by
  have hv : vAt s i = if (Utf8.decode s i).1 = 65533 ∧ (Utf8.decode s i).2 < 3 then (1114112 + (s.get! i).toNat, 1) else Utf8.decode s i := rfl
  have hc := dec_cases s i
  have hd := Tryd.utf8_DecodeRuneInString (s.extract i s.size) w hT.1
  have hde : Lib.decodeGo (s.extract i s.size) = Utf8.decode s i := by
    unfold Lib.decodeGo
    rw [if_neg (by simp; omega), Lib.tail_decode]; rfl
  rw [hde] at hd
  have hl := fun w => Tryd.utf8_RuneLen ((Utf8.decode s i).1 : Int) w
  rw [get_get s i hi] at hv
  clear hde
  generalize hx : (Utf8.decode s i) = x at *
  obtain ⟨r, n⟩ := x
  simp only at *
  have HT := Lib.hid hT; have Hx := Lib.hid hx; have Hd := Lib.hid hd; clear hT hx hd
  have hrl : Lib.runeLen (r : Int) = if r = 65533 then 3 else n := by
    rcases hc with h | h
    · have : r = 65533 := by simpa using congrArg Prod.fst h
      subst this; rfl
    · rw [fine_len h]
      split
      · rename_i h2; subst h2; rcases h with h | h | h | h <;> omega
      · rfl
  rw [hrl] at hl
  have Hl := Lib.hid hl; clear hl hrl
  by_cases h : r = 65533
  · subst h
    rw [if_pos rfl] at Hl
    have hn : n = 1 ∨ n = 3 := by
      rcases hc with h | h
      · left; simpa using congrArg Prod.snd h
      · right; rcases h with h | h | h | h <;> omega
    have hb := (s[i]).toNat_lt
    clear hc
    rcases hn with rfl | rfl
    · rw [if_pos (by omega)] at hv
      have hw : wrap64 (1114112 + wrap64 ((s[i].toNat : Nat) : Int)) = ((1114112 + s[i].toNat : Nat) : Int) := by unfold wrap64; omega
      have Hv := Lib.hid hv; have Hw := Lib.hid hw; clear hv hb hw
      go_enter Tryd.func44, Tryd.ntmps44
      go_wp2_with (first | (go_at_call 66; refine (Hl.out _).mono ?_; rintro e w' ⟨rfl, rfl⟩) | (go_at_call 67; refine Hd.out.mono ?_; rintro e w1 ⟨rfl, hb1⟩))
      go_ret2
      rw [Hv.out]
      exact ⟨ret_ii Hw.out rfl, hb1⟩
    · rw [if_neg (by omega)] at hv
      have Hv := Lib.hid hv; clear hv hb
      go_enter Tryd.func44, Tryd.ntmps44
      go_wp2_with (first | (go_at_call 66; refine (Hl.out _).mono ?_; rintro e w' ⟨rfl, rfl⟩) | (go_at_call 67; refine Hd.out.mono ?_; rintro e w1 ⟨rfl, hb1⟩))
      go_ret2
      rw [Hv.out]
      exact ⟨rfl, hb1⟩
  · have hr : ((r : Int) == 65533) = false := by rw [beq_eq_false_iff_ne]; omega
    rw [if_neg h] at Hl
    rw [if_neg (by omega)] at hv
    have hrb : (r : Int) ≤ 1114111 := by
      rcases hc with h2 | h2
      · exact absurd (by simpa using congrArg Prod.fst h2) h
      · rcases h2 with h2 | h2 | h2 | h2 <;> omega
    have Hv := Lib.hid hv; clear hv hc h
    go_enter Tryd.func44, Tryd.ntmps44
    go_wp2_with (first | (go_at_call 66; refine (Hl.out _).mono ?_; rintro e w' ⟨rfl, rfl⟩))
    go_ret2
    rw [Hv.out]
    exact ⟨rfl, Below.refl _ _⟩
end Go.Proofs.YtmnjafceenckpaaDoor
namespace Go.Proofs.YtmnjafceenckpaaDoor
open Go.RowKit
theorem dec_pos (s : ByteArray) (i : Nat) (h : i < s.size) : 1 ≤ (Utf8.decode s i).2 ∧ (Utf8.decode s i).2 ≤ 4 ∧ i + (Utf8.decode s i).2 ≤ s.size := by
  rw [Lib.decode_at]
  unfold Lib.decodeN
  repeat' split
  all_goals (simp only; omega)
theorem vAt_size (s : ByteArray) (i : Nat) (h : i < s.size) : (vAt s i).2 = (Utf8.decode s i).2 := by
  have hp := dec_pos s i h
  unfold vAt
  split
  · rename_i h2
    have := dec_cases s i
    rcases this with h3 | h3
    · rw [h3]
    · rcases h3 with h3 | h3 | h3 | h3 <;> omega
  · rfl
/-- A text's first value. -/
def oneS (s : ByteArray) : Nat × Nat := if s.size = 0 then (0, 0) else vAt s 0
set_option maxRecDepth 100000 in
set_option maxHeartbeats 1000000 in
theorem one_any (s : ByteArray) (w : World) (hT : UT w) (hs : s.size ≤ 1000000) :
    Calls Tryd.prog 30 #[.string s] w fun e w' => e = .returned (.tuple #[.int .i64 ((oneS s).1 : Int), .int .i64 ((oneS s).2 : Int)]) ∧ Below w.heap.size w w' := by
  have hit := World.iter_heap w s 0
  have Hit := Lib.hid hit; clear hit
  have HT := Lib.hid hT; clear hT
  by_cases h : s.size = 0
  · have Ho : Hid (oneS s = (0, 0)) := Lib.hid (by unfold oneS; rw [if_pos h])
    have hnx : ∀ ty, (Instr.next (.pointer (some ⟨w.heap.size, 0, none⟩)) true ty).run Tryd.prog (w.iter s 0) = _ := fun ty => Lib.run_next_end_at (w.iter s 0) w.heap.size s 0 ty Hit.out (by omega)
    have hb : Below w.heap.size w (w.iter s 0) := below_alloc _ _
    clear h
    go_enter Tryd.func30, Tryd.ntmps30
    go_wp2
    refine wp_loop_rounds 1 ?_
    rw [rounds_succ]
    go_wp2
    go_ret2
    rw [Ho.out]
    exact ⟨rfl, hb⟩
  · have Ho : Hid (oneS s = vAt s 0) := Lib.hid (by unfold oneS; rw [if_neg h])
    have hb : Below w.heap.size w ((w.iter s 0).iterAt w.heap.size s (0 + (Utf8.decode s 0).2)) := Lib.below_iterAt (below_alloc _ _) (Nat.le_refl _) s _
    have hv := value_any s 0 _ (HT.out.below hb) hs (by omega)
    have hnx : ∀ ty, (Instr.next (.pointer (some ⟨w.heap.size, 0, none⟩)) true ty).run Tryd.prog (w.iter s 0) = _ := fun ty => Lib.run_next_any_at (w.iter s 0) w.heap.size s 0 ty Hit.out (by omega)
    clear h
    generalize (w.iter s 0).iterAt w.heap.size s (0 + (Utf8.decode s 0).2) = W1 at *
    have Hv := Lib.hid hv; clear hv
    go_enter Tryd.func30, Tryd.ntmps30
    go_wp2
    refine wp_loop_rounds 1 ?_
    rw [rounds_succ]
    go_wp2_with (go_at_call 44; refine Hv.out.mono ?_; rintro e w1 ⟨rfl, hb1⟩)
    go_ret2
    rw [Ho.out]
    exact ⟨rfl, hb.trans (hb1.mono hb.size)⟩
/-- A text's values, from a place on, at most so many. -/
def valsF (s : ByteArray) : Nat → Nat → List Int
  | 0, _ => []
  | f + 1, i => if i < s.size then ((vAt s i).1 : Int) :: valsF s f (i + (Utf8.decode s i).2) else []
def valsS (s : ByteArray) : List Int := valsF s s.size 0
theorem valsF_end (s : ByteArray) (f i : Nat) (h : ¬ i < s.size) : valsF s f i = [] := by
  cases f with
  | zero => rfl
  | succ f => rw [valsF, if_neg h]
theorem valsF_step (s : ByteArray) (f i : Nat) (h : i < s.size) : valsF s (f + 1) i = ((vAt s i).1 : Int) :: valsF s f (i + (Utf8.decode s i).2) := by rw [valsF, if_pos h]
theorem valsF_len (s : ByteArray) : ∀ f i, (valsF s f i).length + i ≤ s.size ∨ valsF s f i = [] := by
  intro f
  induction f with
  | zero => intro i; right; rfl
  | succ f ih =>
    intro i
    by_cases h : i < s.size
    · rw [valsF_step s f i h]
      have hp := dec_pos s i h
      left
      rcases ih (i + (Utf8.decode s i).2) with h2 | h2
      · simp; omega
      · rw [h2]; simp; omega
    · right; exact valsF_end s _ i h
end Go.Proofs.YtmnjafceenckpaaDoor
namespace Go.Proofs.YtmnjafceenckpaaDoor
open Go.RowKit
theorem infoInt : (Tryd.prog.info? 3).map (fun i => (i.zero, i.size, i.bytes)) = some (some (.int .i64 0), 1, 8) := by kernel_rfl
theorem iBuild (l : List Int) (x : Int) : l.map (Value.int .i64) ++ [Value.int .i64 x] = (l ++ [x]).map (Value.int .i64) := by simp
/-- The loop of Decode. -/
structure DecInv (s : ByteArray) (w : World) (B : Nat) (i f : Nat) (acc : List Int) (v : Value) (wr : World) : Prop where
  own : wr.ownsRow w.heap.size 3 1 v acc.length (acc.map (Value.int .i64))
  it : wr.heap[B]? = some (.stringIter s i)
  bl : Below w.heap.size w wr
  ac : acc ++ valsF s f i = valsS s
  le : i ≤ s.size
  fu : s.size ≤ i + f
  al : acc.length ≤ i
theorem grown_of_below {w w' : World} (h : Below w.heap.size w w') : w.grownBy w' none := ⟨h.os, h.tape, h.output, h.size, fun k hk _ => h.block k hk⟩
theorem own_apart {w : World} {base : Nat} {e : TypeId} {size : Nat} {v : Value} {n : Nat} {xs : List Value} (h : w.ownsRow base e size v n xs) {B : Nat} {s : ByteArray} {i : Nat} (hb : w.heap[B]? = some (.stringIter s i)) : v.ownBlock ≠ some B := by
  rcases h.2 with ⟨rfl, _⟩ | ⟨g, cap, cur, rfl, _, hg, _⟩
  · simp [Value.ownBlock]
  · intro e1
    have : g = B := by simpa [Value.ownBlock] using e1
    subst this
    rw [hg] at hb; cases hb
theorem own_iter {w : World} {base : Nat} {e : TypeId} {size : Nat} {v : Value} {n : Nat} {xs : List Value} (h : w.ownsRow base e size v n xs) {B : Nat} {s : ByteArray} {i : Nat} (hb : w.heap[B]? = some (.stringIter s i)) (j : Nat) :
    (w.iterAt B s j).ownsRow base e size v n xs := by
  have hg : w.grownBy (w.iterAt B s j) (some B) := ⟨rfl, rfl, rfl, by rw [Lib.iterAt_size]; exact Nat.le_refl _, fun k _ hne => Lib.iterAt_other w B k s j (by intro e1; exact hne (by rw [e1]))⟩
  exact h.kept hg (Or.inr (own_apart h hb))
theorem own_below {w w' : World} {base : Nat} {e : TypeId} {size : Nat} {v : Value} {n : Nat} {xs : List Value} (h : w.ownsRow base e size v n xs) (hb : Below w.heap.size w w') : w'.ownsRow base e size v n xs :=
  h.kept (grown_of_below hb) (by cases hv : v.ownBlock <;> simp)
end Go.Proofs.YtmnjafceenckpaaDoor
