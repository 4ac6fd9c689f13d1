/-
  awake (layer 2).
-/
import Derived.Test.YtkccockdnjjanaaGreatDoorTkSplit
namespace Nwl
theorem awakeE : splitE [60, 97, 62, 120, 60, 47, 97, 62] = 0 := by decide +kernel
theorem awakeT : splitT [60, 97, 62, 120, 60, 47, 97, 62] = [⟨1, [97], [], [], false⟩, ⟨3, [], [120], [], false⟩, ⟨2, [97], [], [], false⟩] := by decide +kernel
theorem splitT_err {l : List UInt8} (h : ¬ splitE l = 0) : splitT l = [] := by
  unfold splitT
  unfold splitE at h
  split
  · rfl
  · rename_i h1
    rw [if_neg h1] at h
    split
    · rename_i h2
      rw [if_pos h2] at h
      cases hs : splitL l with
      | none => rfl
      | some ts => rw [hs] at h; exact absurd rfl h
    · rfl
theorem splitT_pos {l : List UInt8} (h : splitE l = 0) (hl : l ≠ []) : 0 < (splitT l).length := by
  unfold splitE at h
  unfold splitT
  split at h
  · cases h
  · rename_i h1
    rw [if_neg h1]
    split at h
    · rename_i h2
      rw [if_pos h2]
      cases hs : splitL l with
      | none => rw [hs] at h; cases h
      | some ts =>
        rw [splitL_M, splitM_step hl] at hs
        cases ht : tokL true l with
        | none => rw [ht] at hs; cases hs
        | some x =>
          obtain ⟨t, rest⟩ := x
          rw [ht] at hs
          simp only [] at hs
          cases hm : splitM false rest with
          | none => rw [hm] at hs; cases hs
          | some q =>
            rw [hm] at hs
            simp only [Option.map_some, Option.some.injEq] at hs
            subst hs
            simp
    · cases h
end Nwl
namespace Go.Proofs.YtkccockdnjjanaaGreatDoor
open Nwl
open Go.RowKit Go.Maps
set_option linter.unusedVariables false

theorem row_cells {w : World} {base n : Nat} {e : TypeId} {size : Nat} {v : Value} {xs : List Value} (h : w.ownsRow base e size v n xs) (hn : 0 < n) : ∃ g cap, v = .slice (some ⟨g, 0, none⟩) n cap ∧ base ≤ g ∧ n ≤ cap ∧ ∀ j u, xs[j]? = some u → w.cell? ⟨g, j, none⟩ = some u := by
  rcases h.2 with ⟨rfl, h0⟩ | ⟨g, cap, cur, rfl, hb, _, hc, _⟩
  · omega
  · refine ⟨g, cap, rfl, hb, hc, fun j u hu => ?_⟩
    have := h.cells (g := g) rfl j u hu
    rwa [addr_add0'] at this

end Go.Proofs.YtkccockdnjjanaaGreatDoor
