/-
  An argument that is a dependency: what it reads as; how much its texts weigh.
-/
import Derived.Test.YthmlggglemnfgaaCoArg
import Derived.Test.YthmlggglemnfgaaCoKey
namespace Go.Proofs.Ythmlggglemnfgaa
open Nwl
open Go.ChangeShapes Go.WideShapes Go.ChangeAt Go.RowKit
set_option linter.unusedVariables false
set_option linter.unusedSimpArgs false
structure Dpd where
  g : List UInt8
  n : List UInt8
  v : List UInt8
  t : List UInt8
  c : List UInt8
  s : List UInt8
  o : Bool
  A : Option Addr
  l : Nat
  k : Nat
abbrev dpW (a : Dpd) : Value := dpV a.g a.n a.v a.t a.c a.s a.o a.A a.l a.k
def DpdOk (a : Dpd) : Prop := a.g.length ≤ reachBytes ∧ a.n.length ≤ reachBytes ∧ a.v.length ≤ reachBytes ∧ a.t.length ≤ reachBytes ∧ a.c.length ≤ reachBytes
theorem array8 {α : Type} {cs : Array α} (h : cs.size = 8) : ∃ c0 c1 c2 c3 c4 c5 c6 c7, cs = #[c0, c1, c2, c3, c4, c5, c6, c7] := by
  obtain ⟨l⟩ := cs
  match l, h with
  | [c0, c1, c2, c3, c4, c5, c6, c7], _ => exact ⟨c0, c1, c2, c3, c4, c5, c6, c7, rfl⟩
set_option maxRecDepth 100000 in
set_option maxHeartbeats 1000000 in
theorem dpd_arg {H : Type} {enc : TypeId × Value → H} {W : World} {base : Nat} {v : Value} {d : DataW H} {p : List MemPlace}
    (hv : Value.okWide Try.prog W .any base 24 v) (h : DataW.Trod enc Try.prog W 0 (fun _ => true) true 24 v d p) (hw : (d.weights Try.prog 24).all (· ≤ reachBytes) = true) :
    ∃ a : Dpd, v = dpW a ∧ DpdOk a := by
  have hc8 : Try.prog.cellsOf 24 = 8 := by kernel_rfl
  have hcs : Try.prog.cellsOf 9 = 1 := by kernel_rfl
  have hcb : Try.prog.cellsOf 4 = 1 := by kernel_rfl
  have hcl : Try.prog.cellsOf 22 = 1 := by kernel_rfl
  obtain ⟨cs, rfl, hsz⟩ := okWide_struct Try.underlying24 hv
  rw [hc8] at hsz
  obtain ⟨c0, c1, c2, c3, c4, c5, c6, c7, rfl⟩ := array8 hsz
  obtain ⟨fuel, hf⟩ := h
  obtain ⟨xs, k, _, hx, _, hxl, hh⟩ := DataW.trod_struct Try.underlying24 hf
  injection hx with hx1 hx2
  subst hx1 hx2
  match xs, hxl with
  | [y0, y1, y2, y3, y4, y5, y6, y7], _ =>
    have g0 := hh 0 _ rfl
    have g1 := hh 1 _ rfl
    have g2 := hh 2 _ rfl
    have g3 := hh 3 _ rfl
    have g4 := hh 4 _ rfl
    have g5 := hh 5 _ rfl
    have g6 := hh 6 _ rfl
    have g7 := hh 7 _ rfl
    simp [hcs, hcb, hcl, Value.cells] at g0 g1 g2 g3 g4 g5 g6 g7
    obtain ⟨s0, e0, rfl, -⟩ := DataW.trod_string Try.underlying9 g0
    obtain ⟨s1, e1, rfl, -⟩ := DataW.trod_string Try.underlying9 g1
    obtain ⟨s2, e2, rfl, -⟩ := DataW.trod_string Try.underlying9 g2
    obtain ⟨s3, e3, rfl, -⟩ := DataW.trod_string Try.underlying9 g3
    obtain ⟨s4, e4, rfl, -⟩ := DataW.trod_string Try.underlying9 g4
    obtain ⟨s5, e5, rfl, -⟩ := DataW.trod_string Try.underlying9 g5
    obtain ⟨b6, e6, -⟩ := DataW.trod_bool Try.underlying4 g6
    obtain ⟨A, l, q, e7⟩ := Go.Joins.slice_form Try.underlying22 g7
    simp at e0 e1 e2 e3 e4 e5 e6 e7
    subst e0 e1 e2 e3 e4 e5 e6 e7
    simp [DataW.weights, Try.underlying24, DataW.weightsEach] at hw
    obtain ⟨w0, w1, w2, w3, w4, w5, -⟩ := hw
    exact ⟨⟨bs s0, bs s1, bs s2, bs s3, bs s4, bs s5, b6, A, l, q⟩, rfl, by
      have := bs_length s0; have := bs_length s1; have := bs_length s2; have := bs_length s3; have := bs_length s4
      refine ⟨?_, ?_, ?_, ?_, ?_⟩ <;> dsimp only <;> omega⟩
end Go.Proofs.Ythmlggglemnfgaa
