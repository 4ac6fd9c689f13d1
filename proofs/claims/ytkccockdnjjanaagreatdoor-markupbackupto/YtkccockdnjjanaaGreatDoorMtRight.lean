/-
  The document's own answers (layer 4): which nodes are right.
-/
import Derived.Test.YtkccockdnjjanaaGreatDoorMtAttrs
import Derived.Test.YtkccockdnjjanaaGreatDoorMqa
import Derived.WalkSmall
namespace Nwl
open Go
theorem rB_nil : rightB [] = false := rfl
theorem rB_many {ns : List Nd} (h : 2000 < ns.length) : rightB ns = false := by
  unfold rightB
  rw [decide_eq_false (by omega : ¬ ns.length ≤ 2000)]; simp
theorem rB_bad {ns : List Nd} {k : Nat} (hk : k < ns.length) (h : nodeB ns k = false) : rightB ns = false := by
  unfold rightB rightTo
  rw [all_range_false hk h]; simp
theorem rB_all {ns : List Nd} (h0 : ns ≠ []) (h1 : ns.length ≤ 2000) (h : rightTo ns ns.length = true) : rightB ns = true := by
  unfold rightB
  rw [h, decide_eq_true h0, decide_eq_true h1]; rfl
/-- an element: what the document asks, where it may stand -/
theorem node_elem {ns : List Nd} {i : Nat} (ht : textB (nd ns i) = false) (S : List Int) (hin : mayStandB ns i = true ↔ S.length < 20) : nodeB ns i = (nameL (nd ns i).name && (decide ((nd ns i).text = []) && (attrsB (nd ns i).attrs && decide (S.length < 20)))) := by
  unfold nodeB mayBeB
  rw [ht]
  simp only [Bool.false_eq_true, if_false]
  cases hm : mayStandB ns i with
  | true =>
    rw [decide_eq_true (hin.1 hm)]
    cases decide ((nd ns i).text = []) <;> cases nameL (nd ns i).name <;> cases attrsB (nd ns i).attrs <;> rfl
  | false =>
    have : ¬ S.length < 20 := fun h => by rw [hin.2 h] at hm; cases hm
    rw [decide_eq_false this]
    cases decide ((nd ns i).text = []) <;> cases nameL (nd ns i).name <;> cases attrsB (nd ns i).attrs <;> rfl
theorem ms_zero (ns : List Nd) : mayStandB ns 0 = (decide (parAt ns (0 : Nat) = -1) && !textB (nd ns 0)) := rfl
theorem ms_succ (ns : List Nd) (i : Nat) : mayStandB ns (i + 1) = ((chainL ns (innerN ns i)).contains (parAt ns (i + 1 : Nat)) && (if textB (nd ns (i + 1)) then !textB (nd ns i) || decide (parAt ns i ≠ parAt ns (i + 1 : Nat)) else decide ((chainL ns (i + 1 : Nat)).length ≤ 20))) := rfl
theorem stand_first {ns : List Nd} (h : parAt ns (0 : Nat) = -1) (ht : textB (nd ns 0) = false) : mayStandB ns 0 = true := by
  rw [ms_zero, ht, decide_eq_true h]; rfl
theorem stand_no {ns : List Nd} {i : Nat} (h : (chainL ns (innerN ns i)).contains (parAt ns (i + 1 : Nat)) = false) : nodeB ns (i + 1) = false := by
  unfold nodeB
  rw [ms_succ, h, Bool.false_and, Bool.and_false]
theorem stand_re {ns : List Nd} {i : Nat} (h : rightTo ns (i + 1) = true) (hc : (chainL ns (innerN ns i)).contains (parAt ns (i + 1 : Nat)) = true) (ht : textB (nd ns (i + 1)) = false) : mayStandB ns (i + 1) = true ↔ (chainL ns (parAt ns (i + 1 : Nat))).length < 20 := by
  have hp := right_par h
  have hb := innerN_bound hp
  rw [List.contains_iff_mem] at hc
  have hle := chain_le hp hb.1 (by omega) hc
  have hpar : Par ns (i + 1 + 1) := by
    intro j hj
    by_cases e : j < i + 1
    · exact hp j e
    · obtain rfl : j = i + 1 := by omega
      omega
  have hs := chainL_step hpar (i := ((i + 1 : Nat) : Int)) (by omega) (by omega)
  rw [ms_succ, List.contains_iff_mem.2 hc, ht, Bool.true_and]
  simp only [Bool.false_eq_true, if_false]
  rw [hs, List.length_cons, decide_eq_true_iff]
  omega
theorem stand_rt {ns : List Nd} {i : Nat} (hc : (chainL ns (innerN ns i)).contains (parAt ns (i + 1 : Nat)) = true) (ht : textB (nd ns (i + 1)) = true) : nodeB ns (i + 1) = (decide ((nd ns (i + 1)).text ≠ []) && (allL (nd ns (i + 1)).text && (decide ((nd ns (i + 1)).attrs = []) && !(textB (nd ns i) && decide (parAt ns i = parAt ns (i + 1 : Nat)))))) := by
  unfold nodeB mayBeB
  rw [ms_succ, hc, ht, Bool.true_and]
  simp only [if_true]
  cases textB (nd ns i) <;> cases allL (nd ns (i + 1)).text <;> cases hd : decide ((nd ns (i + 1)).text ≠ []) <;> cases he : decide ((nd ns (i + 1)).attrs = []) <;> by_cases hp : parAt ns i = parAt ns (i + 1 : Nat) <;> simp [hp]
end Nwl
namespace Go.Proofs.YtkccockdnjjanaaGreatDoor
open Nwl
open Go.RowKit Go.Maps
set_option linter.unusedVariables false
set_option linter.unusedSimpArgs false

theorem info_i : (Tryz.prog.info? 3).map (fun i => (i.zero, i.size, i.bytes)) = some (some (.int .i64 0), 1, 8) := by kernel_rfl
/-- nodes that may be read, below block B -/
def NdRd (B : Nat) (w : World) (A : Option Addr) (n : Nat) (ns : List Nd) : Prop := n = ns.length ∧ ∀ j (hj : j < ns.length), ∃ (b o : Nat) (A' : Option Addr) (l c : Nat), A = some ⟨b, o, none⟩ ∧ b < B ∧ w.cell? ⟨b, o + j * 4, none⟩ = some (.int .i64 (ns[j]).parent) ∧ w.cell? ⟨b, o + j * 4 + 1, none⟩ = some (.string (tx (ns[j]).name)) ∧ w.cell? ⟨b, o + j * 4 + 2, none⟩ = some (.string (tx (ns[j]).text)) ∧ w.cell? ⟨b, o + j * 4 + 3, none⟩ = some (.slice A' l c) ∧ AttR B w A' l (ns[j]).attrs
theorem NdRd.below {B : Nat} {w w' : World} {A : Option Addr} {n : Nat} {ns : List Nd} (h : NdRd B w A n ns) (hb : Below B w w') : NdRd B w' A n ns :=
  ⟨h.1, fun j hj => by
    obtain ⟨b, o, A', l, c, q1, q2, q3, q4, q5, q6, q7⟩ := h.2 j hj
    exact ⟨b, o, A', l, c, q1, q2, (hb.cell (p := ⟨b, o + j * 4, none⟩) q2).trans q3, (hb.cell (p := ⟨b, o + j * 4 + 1, none⟩) q2).trans q4, (hb.cell (p := ⟨b, o + j * 4 + 2, none⟩) q2).trans q5, (hb.cell (p := ⟨b, o + j * 4 + 3, none⟩) q2).trans q6, q7.below hb⟩⟩
/-- what is open, as a row of one's own, the innermost one at its end -/
def StO (base : Nat) (w : World) (A : Option Addr) (n c : Nat) (S : List Int) : Prop := n = S.length ∧ w.ownsRow base 3 1 (.slice A n c) n (S.reverse.map (.int .i64 ·))
theorem StO.nil (base : Nat) (w : World) : StO base w none 0 0 [] := ⟨rfl, World.ownsRow_nil _ _ _ _⟩
theorem StO.below {base : Nat} {w w' : World} {A : Option Addr} {n c : Nat} {S : List Int} (h : StO base w A n c S) (hb : Below w.heap.size w w') : StO base w' A n c S := by
  refine ⟨h.1, h.2.1, ?_⟩
  rcases h.2.2 with h0 | ⟨g, cap, cur, hv, hg, hh, hc, hx, hs, ht⟩
  · exact .inl h0
  · exact .inr ⟨g, cap, cur, hv, hg, (hb.block g (Array.getElem?_eq_some_iff.1 hh).1).trans hh, hc, hx, hs, ht⟩
theorem StO.top {base : Nat} {w : World} {A : Option Addr} {n c : Nat} {t : Int} {S : List Int} (h : StO base w A n c (t :: S)) : ∃ g, A = some ⟨g, 0, none⟩ ∧ base ≤ g ∧ n = S.length + 1 ∧ n ≤ c ∧ g < w.heap.size ∧ w.cell? ⟨g, S.length, none⟩ = some (.int .i64 t) ∧ StO base w A S.length c S := by
  obtain ⟨hn, h0⟩ := h
  have hn' : n = S.length + 1 := hn
  rcases h0.2 with ⟨hv, h1⟩ | ⟨g, cap, cur, hv, hg, hh, hc, hx, hs, ht⟩
  · omega
  · injection hv with e1 e2 e3
    subst e1 e3
    have hcell : w.cell? ⟨g, S.length, none⟩ = some (.int .i64 t) := by
      have q : ((t :: S).reverse.map (Value.int .i64 ·))[S.length]? = some (.int .i64 t) := by
        rw [List.reverse_cons, List.map_append, List.getElem?_append_right (by simp)]
        simp
      have r1 := h0.cells (g := g) rfl _ _ q
      rwa [addr_add0'] at r1
    refine ⟨g, rfl, hg, hn', hc, (Array.getElem?_eq_some_iff.1 hh).1, hcell, rfl, ?_⟩
    subst hn'
    refine ownsRow_pop (last := [.int .i64 t]) (by simp) ?_
    rw [List.reverse_cons, List.map_append] at h0
    exact h0
end Go.Proofs.YtkccockdnjjanaaGreatDoor
