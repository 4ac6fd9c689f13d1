/-
  An argument that is a slice of words: what it reads as.
-/
import Derived.Test.YtjmjklmndokdiaaDoorGnInts
import Derived.Test.YtjmjklmndokdiaaDoorBe
import Derived.Deep.Slices
import Derived.ChangeArms
namespace Go.Proofs.YtjmjklmndokdiaaDoor
open Nwl
open Go.ChangeShapes Go.WideShapes Go.ChangeAt Go.RowKit
set_option linter.unusedVariables false
set_option linter.unusedSimpArgs false
set_option maxRecDepth 100000 in
theorem word_el {H : Type} {enc : TypeId × Value → H} {W : World} {a : Addr} {i n' : Nat} {cs' : List Value} {x : DataW H × List MemPlace}
    (h1 : W.cells? 0 (a.add (i * Tryd.prog.cellsOf 46)) (Tryd.prog.cellsOf 46) = some cs') (h2 : DataW.trod enc Tryd.prog W 0 (fun _ => true) true n' 46 cs' = some x) :
    ∃ z : Wz, z.t.length ≤ maxLen ∧ W.cell? (a.add (i * 2)) = some (.int .i64 z.k) ∧ W.cell? (a.add (i * 2 + 1)) = some (.string (tx z.t)) := by
  have hc2 : Tryd.prog.cellsOf 46 = 2 := by kernel_rfl
  have hcs : Tryd.prog.cellsOf 9 = 1 := by kernel_rfl
  have hci : Tryd.prog.cellsOf 3 = 1 := by kernel_rfl
  rw [hc2] at h1
  obtain ⟨_, hlen, hcell⟩ := World.cells?_some h1
  obtain ⟨xs, k, _, _, _, hxl, hf⟩ := DataW.trod_struct Tryd.underlying46 h2
  match xs, hxl, cs', hlen with
  | [y0, y1], _, [v0, v1], _ =>
    have g0 := hf 0 _ rfl
    have g1 := hf 1 _ rfl
    simp [hcs, hci] at g0 g1
    obtain ⟨z0, e0, _, _⟩ := DataW.trod_int Tryd.underlying3 g0
    obtain ⟨s1, e1, _, q1⟩ := DataW.trod_string Tryd.underlying9 g1
    have r0 := hcell 0 (by omega)
    have r1 := hcell 1 (by omega)
    simp at e0 e1
    subst e0 e1
    refine ⟨⟨z0, bs s1⟩, by rw [bs_length]; exact q1, ?_, ?_⟩
    · simpa [Addr.add] using r0
    · rw [Go.Deep.add_add] at r1
      simpa [tx_bs] using r1
set_option maxRecDepth 100000 in
theorem words_arg {H : Type} {enc : TypeId × Value → H} {W : World} {base : Nat} {v : Value} {d : DataW H} {p : List MemPlace}
    (hv : Value.okWide Tryd.prog W .any base 22 v) (h : DataW.Trod enc Tryd.prog W 0 (fun _ => true) true 22 v d p) :
    ∃ (A : Option Addr) (n c : Nat), v = .slice A n c ∧ n ≤ maxLen ∧ (A = none → n = 0 ∧ c = 0) ∧ ∃ l : List Wz, WzR W.heap.size W A n l ∧ ShortW l := by
  obtain ⟨A, n, c, rfl⟩ := okWide_slice Tryd.underlying22 hv
  obtain ⟨f, hf⟩ := h
  rcases Go.Deep.open_slice Tryd.underlying22 hf with ⟨hcs, hx⟩ | ⟨a, len, cap, m, n', D, Pl, hcs, _, hle, hm, hmm, _, hel⟩
  · simp [Value.cells] at hcs
    obtain ⟨rfl, rfl, rfl⟩ := hcs
    exact ⟨none, 0, 0, rfl, Nat.zero_le _, fun _ => ⟨rfl, rfl⟩, [], ⟨rfl, fun j hj => by simp at hj⟩, fun s hs => by simp at hs⟩
  · simp [Value.cells] at hcs
    obtain ⟨rfl, rfl, rfl⟩ := hcs
    simp only [if_true] at hmm
    have each : ∀ i, ∃ z : Wz, i < n → z.t.length ≤ maxLen ∧ W.cell? (a.add (i * 2)) = some (.int .i64 z.k) ∧ W.cell? (a.add (i * 2 + 1)) = some (.string (tx z.t)) := by
      intro i
      by_cases hi : i < n
      · obtain ⟨cs', h1, h2⟩ := hel i (by omega)
        obtain ⟨s, hs⟩ := word_el h1 h2
        exact ⟨s, fun _ => hs⟩
      · exact ⟨⟨0, []⟩, fun h => absurd h hi⟩
    have hlen : ((List.range n).map fun i => Classical.choose (each i)).length = n := by simp
    have hget : ∀ j (hj : j < ((List.range n).map fun i => Classical.choose (each i)).length), ((List.range n).map fun i => Classical.choose (each i))[j] = Classical.choose (each j) := fun j hj => by simp
    refine ⟨some a, n, c, rfl, by omega, (fun e => by cases e), (List.range n).map (fun i => Classical.choose (each i)), ⟨hlen.symm, fun j hj => ?_⟩, fun s hs => ?_⟩
    · have hj' : j < n := by rw [hlen] at hj; exact hj
      obtain ⟨hq1, c0, c1⟩ := Classical.choose_spec (each j) hj'
      clear hq1
      have c00 := (Classical.choose_spec (each 0) (by omega)).2.1
      rw [hget j hj]
      generalize Classical.choose (each j) = s at c0 c1 ⊢
      generalize Classical.choose (each 0) = s0 at c00
      obtain ⟨b, o, sp⟩ := a
      have hsp : sp = none := by
        cases sp with
        | none => rfl
        | some s =>
          exfalso
          simp [World.cell?, Addr.add] at c00
          split at c00 <;> cases c00
      subst hsp
      have hb := cell_lt c00
      rw [Addr.add_lit] at c0 c1
      exact ⟨b, o, rfl, hb, c0, by rw [Nat.add_assoc]; exact c1⟩
    · obtain ⟨i, hi, rfl⟩ := List.mem_map.1 hs
      exact (Classical.choose_spec (each i) (List.mem_range.1 hi)).1
end Go.Proofs.YtjmjklmndokdiaaDoor
