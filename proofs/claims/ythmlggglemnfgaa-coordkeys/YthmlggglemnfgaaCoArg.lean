/-
  An argument that is a coordinate: what it reads as; how much its texts weigh.
-/
import Derived.Test.YthmlggglemnfgaaCoText
import Derived.Lib.SmallJoins
import Derived.ChangeArms
namespace Go.Proofs.Ythmlggglemnfgaa
open Nwl
open Go.ChangeShapes Go.WideShapes Go.ChangeAt Go.RowKit
set_option linter.unusedVariables false
set_option linter.unusedSimpArgs false
/-- what each of some arguments weighs -/
theorem weigh_cons {H : Type} {t : TypeId} {ts : List TypeId} {d : DataW H} {ds : List (DataW H)} (h : (DataW.weightsEach Try.prog (t :: ts) (d :: ds)).all (· ≤ reachBytes) = true) :
    (d.weights Try.prog t).all (· ≤ reachBytes) = true ∧ (DataW.weightsEach Try.prog ts ds).all (· ≤ reachBytes) = true := by
  unfold DataW.weightsEach at h
  rw [List.all_append, Bool.and_eq_true] at h
  exact h
/-- a coordinate whose texts are no longer than any may be -/
def CrdOk (a : Crd) : Prop := a.g.length ≤ reachBytes ∧ a.n.length ≤ reachBytes ∧ a.v.length ≤ reachBytes
set_option maxRecDepth 100000 in
theorem crd_arg {H : Type} {enc : TypeId × Value → H} {W : World} {base : Nat} {v : Value} {d : DataW H} {p : List MemPlace}
    (hv : Value.okWide Try.prog W .any base 32 v) (h : DataW.Trod enc Try.prog W 0 (fun _ => true) true 32 v d p) (hw : (d.weights Try.prog 32).all (· ≤ reachBytes) = true) :
    ∃ a : Crd, v = crV a.g a.n a.v ∧ CrdOk a := by
  obtain ⟨v0, v1, v2, y0, y1, y2, n, rfl, rfl, -, h0, h1, h2⟩ := Go.Joins.open_agg3 Try.underlying32 (by kernel_rfl) (by kernel_rfl) hv h
  obtain ⟨s0, e0, rfl, -⟩ := DataW.trod_string Try.underlying9 h0
  obtain ⟨s1, e1, rfl, -⟩ := DataW.trod_string Try.underlying9 h1
  obtain ⟨s2, e2, rfl, -⟩ := DataW.trod_string Try.underlying9 h2
  obtain rfl : v0 = .string s0 := by simpa using e0
  obtain rfl : v1 = .string s1 := by simpa using e1
  obtain rfl : v2 = .string s2 := by simpa using e2
  simp [DataW.weights, Try.underlying32, DataW.weightsEach] at hw
  exact ⟨⟨bs s0, bs s1, bs s2⟩, rfl, by
    have := bs_length s0; have := bs_length s1; have := bs_length s2
    refine ⟨?_, ?_, ?_⟩ <;> dsimp only <;> omega⟩
end Go.Proofs.Ythmlggglemnfgaa
