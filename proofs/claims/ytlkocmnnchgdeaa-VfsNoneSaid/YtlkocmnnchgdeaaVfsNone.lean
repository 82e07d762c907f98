/-
  VfsNone answers true for every two texts and every bytes that a crash keeps, and leaves its arguments as they were. No condition.
-/
import Derived.Test.YtlkocmnnchgdeaaVf13
import Derived.Test.YtlkocmnnchgdeaaRows
import Derived.Test.YtlkocmnnchgdeaaArgU8
import Derived.Test.YtlkocmnnchgdeaaLaw
import Derived.SizedLaws
set_option linter.unusedVariables false
set_option linter.unusedSimpArgs false
namespace Go.Proofs.Ytlkocmnnchgdeaa
set_option maxRecDepth 100000
open Go.ChangeShapes Go.WideShapes Go.ChangeAt Go.RowKit Go.Deep
open Go.ChangeMaps (open_string)
theorem vfsOwn : ownKnob Try.prog.godebug = none := by kernel_rfl
theorem vfsLaidOut : laidOutB Try.prog = true := by kernel_rfl
section
variable {H : Type} {enc : TypeId × Value → H} {W : World}
set_option maxRecDepth 100000 in
theorem bytesOf8 : Try.prog.bytesOf 5 = 1 := by kernel_rfl
/-- Bytes that came in lie within reach. -/
theorem u8_reach {a : Option Addr} {n c : Nat} {d0 : DataW H} {p : List MemPlace} {ts : List TypeId} {ds : List (DataW H)} {j : Nat} (hsz : (DataW.weightsEach Try.prog ts ds).all (· ≤ reachBytes) = true) (ht : ts[j]? = some 22) (hd : ds[j]? = some d0)
    (h : DataW.Trod enc Try.prog W 0 (fun _ => true) true 22 (.slice a n c) d0 p) : n ≤ 140737488355328 := by
  obtain ⟨fuel, hf⟩ := h
  rcases open_slice Try.underlying22 hf with ⟨hcs, _⟩ | ⟨a1, len, cap, m, n1, D, Pl, hcs, _, hl, hm, hmm, hd0, hx⟩
  · simp [Value.cells] at hcs
    omega
  · simp [Value.cells] at hcs
    obtain ⟨rfl, rfl, rfl⟩ := hcs
    have hd1 : d0 = .slice ((List.range n).map D) ((List.range (m - n)).map fun j => D (n + j)) := congrArg Prod.fst hd0
    have hz := sized_slice hsz ht (hd1 ▸ hd) Try.underlying22
    rw [bytesOf8] at hz
    have := reachBytes_lt
    simp at hz
    omega
end
set_option maxRecDepth 100000 in
theorem vfsNone_lifted (os : Os) (started : os.Started) (H : Type) (enc : TypeId × Value → H) :
    ReturnsInHanded {} Try.checked os 3 .any (Rows.vfsNoneSpec.pre6 enc Try.prog Try.f3 Rows.vfsNoneRow.domain false) (Rows.vfsNoneSpec.post enc Try.prog Try.f3 false true false false) := by
  refine returnsInHanded_of_change_sized (C := Try.checked) vfsOwn started (by kernel_rfl) Try.func3
    (ChangeSpec.witness6 (enc := enc) (C := Try.checked) false ⟨#[], #[.string ⟨#[]⟩, .string ⟨#[]⟩, .slice none 0 0], []⟩ 8 (by kernel_rfl) (by kernel_rfl) (by kernel_rfl) (by kernel_rfl)) ?_
  intro W base args ds gs before hval0 hW hcnd hsz _
  have hval : ∀ (j : Nat) t v, Try.f3.params[j]? = some t → args[j]? = some v → Value.okWide Try.prog W .any base t v := hval0
  have hW' := hW
  obtain ⟨p, q, hA0, hV, rfl, hfz, hnd⟩ := hW
  have hA : DataW.TrodAll enc Try.prog W 0 (fun _ => true) true Try.f3.params.toList args.toList ds p := hA0
  rw [Try.params3] at hA hval
  obtain ⟨v0, v1, v2, d0, d1, d2, p0, p1, p2, rfl, rfl, rfl, h0, h1, h2⟩ := trodAll_three hA
  obtain ⟨rfl, rfl⟩ := trodVars_none hV
  obtain ⟨a0, rfl, rfl, rfl, wf0⟩ := open_string Try.underlying9 (hval 0 9 v0 rfl rfl) h0
  obtain ⟨a1, rfl, rfl, rfl, wf1⟩ := open_string Try.underlying9 (hval 1 9 v1 rfl rfl) h1
  obtain ⟨l, a, c, rfl, hu, _⟩ := arg_u8s (hval 2 22 v2 rfl rfl) h2
  have hn := u8_reach (j := 2) hsz (by kernel_rfl) rfl h2
  clear hA0 hval0
  refine (vnone_any _ _ l a c l.length W rfl hn hu).mono fun e W' ⟨he, hb⟩ => ?_
  subst he
  exact ⟨_, rfl, law_post vfsLaidOut rfl (by kernel_rfl) rfl Try.underlying4 hW' (fun _ => rfl) hb⟩
set_option maxHeartbeats 2000000 in
set_option maxRecDepth 100000 in
theorem vfsNone_holds : Rows.VfsNoneSaid :=
  OpenClaim.holds_of_wide 3 Try.f3 rfl rfl rfl rfl rfl rfl rfl ⟨rfl, rfl, rfl, rfl, rfl⟩ rfl rfl rfl rfl rfl (by kernel_rfl) Try.func3 (by kernel_rfl)
    (of_decide_eq_true (by kernel_rfl)) (by unfold Func.isWrapper; first | (rw [if_pos (by decide +kernel)]; kernel_rfl) | (rw [if_neg (by decide +kernel)]; exact ⟨rfl, rfl⟩))
    (fun os started H enc _ => vfsNone_lifted os started H enc)
end Go.Proofs.Ytlkocmnnchgdeaa
