/-
  Attributes that may be read.
-/
import Derived.Test.YtkccockdnjjanaaGreatDoorBa
namespace Go.Proofs.YtkccockdnjjanaaGreatDoor
open Nwl
open Go.RowKit Go.Maps
set_option linter.unusedVariables false

/-- attributes that may be read, below block B -/
def AttR (B : Nat) (w : World) (A : Option Addr) (l : Nat) (as' : List (List UInt8 × List UInt8)) : Prop := l = as'.length ∧ ∀ j (hj : j < as'.length), ∃ b o, A = some ⟨b, o, none⟩ ∧ b < B ∧ w.cell? ⟨b, o + j * 2, none⟩ = some (.string (tx as'[j].1)) ∧ w.cell? ⟨b, o + j * 2 + 1, none⟩ = some (.string (tx as'[j].2))
theorem AttR.below {B : Nat} {w w' : World} {A : Option Addr} {l : Nat} {as' : List (List UInt8 × List UInt8)} (h : AttR B w A l as') (hb : Below B w w') : AttR B w' A l as' :=
  ⟨h.1, fun j hj => by
    obtain ⟨b, o, q1, q2, q3, q4⟩ := h.2 j hj
    exact ⟨b, o, q1, q2, (hb.cell (p := ⟨b, o + j * 2, none⟩) q2).trans q3, (hb.cell (p := ⟨b, o + j * 2 + 1, none⟩) q2).trans q4⟩⟩
theorem attrCells_two : ∀ (acc : List (List UInt8 × List UInt8)) (j : Nat) (hj : j < acc.length), (attrCells acc)[j * 2]? = some (.string (tx acc[j].1)) ∧ (attrCells acc)[j * 2 + 1]? = some (.string (tx acc[j].2))
  | a :: l, 0, h => ⟨rfl, rfl⟩
  | a :: l, j + 1, h => by
    have := attrCells_two l j (by simpa using h)
    rw [show (j + 1) * 2 = j * 2 + 1 + 1 by omega]
    exact this
theorem AttR.of {B base : Nat} {w : World} {A : Option Addr} {l c : Nat} {as' : List (List UInt8 × List UInt8)} (h : w.ownsRow base 61 2 (.slice A l c) as'.length (attrCells as')) (hB : w.heap.size ≤ B) : AttR B w A l as' := by
  have hr := RowR.of h hB
  have hl : l = as'.length := by
    rcases h.2 with ⟨e, h0⟩ | ⟨g, cap, cur, e, _⟩
    · injection e with _ e2 _; rw [e2, h0]
    · injection e with _ e2 _
  refine ⟨hl, fun j hj => ?_⟩
  obtain ⟨b, o, c', he, hb, _, hc⟩ := hr.some (by omega)
  injection he with q1 _ _
  obtain ⟨u1, u2⟩ := attrCells_two as' j hj
  exact ⟨b, o, q1, hb, hc _ _ u1, by rw [Nat.add_assoc]; exact hc _ _ u2⟩
theorem AttR.ofR {B : Nat} {w : World} {A : Option Addr} {l c : Nat} {as' : List (List UInt8 × List UInt8)} (h : RowR B w (.slice A l c) as'.length 2 (attrCells as')) (hl : l = as'.length) : AttR B w A l as' := by
  refine ⟨hl, fun j hj => ?_⟩
  obtain ⟨b, o, c', he, hb, _, hc⟩ := h.some (by omega)
  injection he with q1 _ _
  obtain ⟨u1, u2⟩ := attrCells_two as' j hj
  exact ⟨b, o, q1, hb, hc _ _ u1, by rw [Nat.add_assoc]; exact hc _ _ u2⟩
theorem AttR.up {B B' : Nat} {w : World} {A : Option Addr} {l : Nat} {as' : List (List UInt8 × List UInt8)} (h : AttR B w A l as') (hB : B ≤ B') : AttR B' w A l as' :=
  ⟨h.1, fun j hj => by
    obtain ⟨b, o, q1, q2, q3, q4⟩ := h.2 j hj
    exact ⟨b, o, q1, by omega, q3, q4⟩⟩
end Go.Proofs.YtkccockdnjjanaaGreatDoor
