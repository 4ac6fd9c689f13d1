/-
  An argument that is a slice of spans: what it reads as.
-/
import Derived.Test.YtkphkcpckgdgaaaGreatDoorGnInts
import Derived.Test.YtkphkcpckgdgaaaGreatDoorSa
import Derived.Deep.Slices
import Derived.ChangeArms
namespace Go.Proofs.YtkphkcpckgdgaaaGreatDoor
open Nwl
open Go.ChangeShapes Go.WideShapes Go.ChangeAt Go.RowKit
set_option linter.unusedVariables false
set_option linter.unusedSimpArgs false
set_option maxRecDepth 100000 in
theorem span_el {H : Type} {enc : TypeId × Value → H} {W : World} {a : Addr} {i n' : Nat} {cs' : List Value} {x : DataW H × List MemPlace}
    (h1 : W.cells? 0 (a.add (i * Tryz.prog.cellsOf 27)) (Tryz.prog.cellsOf 27) = some cs') (h2 : DataW.trod enc Tryz.prog W 0 (fun _ => true) true n' 27 cs' = some x) :
    ∃ s : Sp, s.lo.length ≤ maxLen ∧ s.hi.length ≤ maxLen ∧ W.cell? (a.add (i * 4)) = some (.string (tx s.lo)) ∧ W.cell? (a.add (i * 4 + 1)) = some (.string (tx s.hi)) ∧ W.cell? (a.add (i * 4 + 2)) = some (.bool s.il) ∧ W.cell? (a.add (i * 4 + 3)) = some (.bool s.ih) := by
  have hc4 : Tryz.prog.cellsOf 27 = 4 := by kernel_rfl
  have hcs : Tryz.prog.cellsOf 9 = 1 := by kernel_rfl
  have hcb : Tryz.prog.cellsOf 4 = 1 := by kernel_rfl
  rw [hc4] at h1
  obtain ⟨_, hlen, hcell⟩ := World.cells?_some h1
  obtain ⟨xs, k, _, _, _, hxl, hf⟩ := DataW.trod_struct Tryz.underlying27 h2
  match xs, hxl, cs', hlen with
  | [y0, y1, y2, y3], _, [v0, v1, v2, v3], _ =>
    have g0 := hf 0 _ rfl
    have g1 := hf 1 _ rfl
    have g2 := hf 2 _ rfl
    have g3 := hf 3 _ rfl
    simp [hcs, hcb] at g0 g1 g2 g3
    obtain ⟨s0, e0, _, z0⟩ := DataW.trod_string Tryz.underlying9 g0
    obtain ⟨s1, e1, _, z1⟩ := DataW.trod_string Tryz.underlying9 g1
    obtain ⟨b2, e2, _⟩ := DataW.trod_bool Tryz.underlying4 g2
    obtain ⟨b3, e3, _⟩ := DataW.trod_bool Tryz.underlying4 g3
    have q0 := hcell 0 (by omega)
    have q1 := hcell 1 (by omega)
    have q2 := hcell 2 (by omega)
    have q3 := hcell 3 (by omega)
    simp at e0 e1 e2 e3
    subst e0 e1 e2 e3
    refine ⟨⟨bs s0, bs s1, b2, b3⟩, by rw [bs_length]; exact z0, by rw [bs_length]; exact z1, ?_, ?_, ?_, ?_⟩
    · simpa [tx_bs, Addr.add] using q0
    · rw [Go.Deep.add_add] at q1
      simpa [tx_bs] using q1
    · rw [Go.Deep.add_add] at q2
      simpa using q2
    · rw [Go.Deep.add_add] at q3
      simpa using q3
set_option maxRecDepth 100000 in
theorem spans_arg {H : Type} {enc : TypeId × Value → H} {W : World} {base : Nat} {v : Value} {d : DataW H} {p : List MemPlace}
    (hv : Value.okWide Tryz.prog W .any base 23 v) (h : DataW.Trod enc Tryz.prog W 0 (fun _ => true) true 23 v d p) :
    ∃ (A : Option Addr) (n c : Nat), v = .slice A n c ∧ n ≤ maxLen ∧ (A = none → n = 0 ∧ c = 0) ∧ ∃ l : List Sp, SpR W.heap.size W A n l ∧ ∀ s ∈ l, s.lo.length ≤ maxLen ∧ s.hi.length ≤ maxLen := by
  obtain ⟨A, n, c, rfl⟩ := okWide_slice Tryz.underlying23 hv
  obtain ⟨f, hf⟩ := h
  rcases Go.Deep.open_slice Tryz.underlying23 hf with ⟨hcs, hx⟩ | ⟨a, len, cap, m, n', D, Pl, hcs, _, hle, hm, hmm, _, hel⟩
  · simp [Value.cells] at hcs
    obtain ⟨rfl, rfl, rfl⟩ := hcs
    exact ⟨none, 0, 0, rfl, Nat.zero_le _, fun _ => ⟨rfl, rfl⟩, [], SpR.nil _ _ _, fun s hs => by simp at hs⟩
  · simp [Value.cells] at hcs
    obtain ⟨rfl, rfl, rfl⟩ := hcs
    simp only [if_true] at hmm
    have each : ∀ i, ∃ s : Sp, i < n → s.lo.length ≤ maxLen ∧ s.hi.length ≤ maxLen ∧ W.cell? (a.add (i * 4)) = some (.string (tx s.lo)) ∧ W.cell? (a.add (i * 4 + 1)) = some (.string (tx s.hi)) ∧ W.cell? (a.add (i * 4 + 2)) = some (.bool s.il) ∧ W.cell? (a.add (i * 4 + 3)) = some (.bool s.ih) := by
      intro i
      by_cases hi : i < n
      · obtain ⟨cs', h1, h2⟩ := hel i (by omega)
        obtain ⟨s, hs⟩ := span_el h1 h2
        exact ⟨s, fun _ => hs⟩
      · exact ⟨⟨[], [], false, false⟩, fun h => absurd h hi⟩
    have hlen : ((List.range n).map fun i => Classical.choose (each i)).length = n := by simp
    have hget : ∀ j (hj : j < ((List.range n).map fun i => Classical.choose (each i)).length), ((List.range n).map fun i => Classical.choose (each i))[j] = Classical.choose (each j) := fun j hj => by simp
    refine ⟨some a, n, c, rfl, by omega, (fun e => by cases e), (List.range n).map (fun i => Classical.choose (each i)), ⟨hlen.symm, fun j hj => ?_⟩, fun s hs => ?_⟩
    · have hj' : j < n := by rw [hlen] at hj; exact hj
      obtain ⟨hq1, hq2, c0, c1, c2, c3⟩ := Classical.choose_spec (each j) hj'
      clear hq1 hq2
      have c00 := (Classical.choose_spec (each 0) (by omega)).2.2.1
      rw [hget j hj]
      generalize Classical.choose (each j) = s at c0 c1 c2 c3 ⊢
      generalize Classical.choose (each 0) = s0 at c00
      obtain ⟨b, o, sp⟩ := a
      have hsp : sp = none := by
        cases sp with
        | none => rfl
        | some s =>
          exfalso
          simp [World.cell?, Addr.add] at c00
          split at c00 <;> cases c00
      subst hsp
      have hb := cell_lt c00
      rw [Addr.add_lit] at c0 c1 c2 c3
      exact ⟨b, o, rfl, hb, c0, by rw [Nat.add_assoc]; exact c1, by rw [Nat.add_assoc]; exact c2, by rw [Nat.add_assoc]; exact c3⟩
    · obtain ⟨i, hi, rfl⟩ := List.mem_map.1 hs
      have := Classical.choose_spec (each i) (List.mem_range.1 hi)
      exact ⟨this.1, this.2.1⟩
end Go.Proofs.YtkphkcpckgdgaaaGreatDoor
