/-
  Nodes that may be read, as the document's contracts want them.
-/
import Derived.Test.YtkccockdnjjanaaGreatDoorMtRight
namespace Go.Proofs.YtkccockdnjjanaaGreatDoor
open Nwl
open Go.RowKit Go.Maps
set_option linter.unusedVariables false

/-- nodes that may be read, as the document's contracts want them -/
theorem NdRd.ofR {B : Nat} {w : World} {A : Option Addr} {n c : Nat} {ns : List Nd} (h : NodesR B w (.slice A n c) ns) (hn : n = ns.length) : NdRd B w A n ns := by
  refine ⟨hn, fun j hj => ?_⟩
  obtain ⟨b, o, A2, l2, c2, hA, hr, q1, q2, q3, q4⟩ := h.at j hj
  have hl : l2 = (ns[j]).attrs.length := by
    rcases hr.2 with ⟨⟨A0, c0, hv, _⟩, h0⟩ | ⟨b', o', c', hv, _⟩
    · injection hv with _ e2 _
      omega
    · injection hv with _ e2 _
  refine ⟨b, o, A2, l2, c2, hA, ?_, q1, q2, q3, q4, AttR.ofR hr hl⟩
  obtain ⟨cs, h1, h2⟩ := h
  rcases h1.2 with ⟨_, h0⟩ | ⟨b', o', c', hv, hb, _⟩
  · omega
  · injection hv with e1 _ _
    rw [hA] at e1
    injection e1 with e1
    injection e1 with e1 _ _
    omega
end Go.Proofs.YtkccockdnjjanaaGreatDoor
