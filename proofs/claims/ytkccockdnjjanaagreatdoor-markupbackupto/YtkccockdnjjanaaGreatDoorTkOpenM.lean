/-
  Plain facts on the attributes of a beginning (layer 2), and on their row.
-/
import Derived.Test.YtkccockdnjjanaaGreatDoorBa
namespace Nwl
open Go
def spB (l : List UInt8) : Bool := decide ((skipL l).length < l.length)
theorem attrL_name {l rest n v : List UInt8} (h : attrL l = some ((n, v), rest)) : n.length ≤ l.length := by
  unfold attrL at h
  split at h
  · cases h
  · cases hs : skipL (nameP l).2 with
    | nil => rw [hs] at h; cases h
    | cons c r =>
      rw [hs] at h
      simp only [] at h
      split at h
      · cases hv : valueL (skipL r) with
        | none => rw [hv] at h; cases h
        | some x =>
          rw [hv] at h
          simp only [Option.map_some, Option.some.injEq, Prod.mk.injEq] at h
          rw [← h.1.1]
          unfold nameP
          cases l with
          | nil => simp
          | cons c2 r2 =>
            simp only []
            split
            · exact (List.takeWhile_sublist _).length_le
            · simp
      · cases h
theorem spB_false {l : List UInt8} (h : spB l = false) : (skipL l).length = l.length := by
  have := skipL_le l
  simp [spB] at h
  omega
theorem spB_true {l : List UInt8} (h : spB l = true) : ¬ (skipL l).length = l.length := by
  simp [spB] at h
  omega
theorem attrsL_gt {acc : List (List UInt8 × List UInt8)} {l : List UInt8} (h : Lib.hasPrefix (skipL l) [62] = true) : attrsL acc l = some (acc, false, (skipL l).drop 1) := by
  rw [attrsL_eq, if_pos h]
theorem attrsL_sl {acc : List (List UInt8 × List UInt8)} {l : List UInt8} (h0 : Lib.hasPrefix (skipL l) [62] = false) (h : Lib.hasPrefix (skipL l) [47, 62] = true) : attrsL acc l = some (acc, true, (skipL l).drop 2) := by
  rw [attrsL_eq, if_neg (by rw [h0]; decide), if_pos h]
theorem attrsL_more {acc : List (List UInt8 × List UInt8)} {l : List UInt8} (h0 : Lib.hasPrefix (skipL l) [62] = false) (h1 : Lib.hasPrefix (skipL l) [47, 62] = false) : attrsL acc l =
    if (skipL l).length = l.length then none else match attrL (skipL l) with
      | none => none
      | some (a, rest) => if (acc.map (·.1)).contains a.1 then none else attrsL (acc ++ [a]) rest := by
  rw [attrsL_eq, if_neg (by rw [h0]; decide), if_neg (by rw [h1]; decide)]
  by_cases e : (skipL l).length = l.length
  · rw [if_pos e, if_pos e]
  · rw [if_neg e, if_neg e]
    cases attrL (skipL l) <;> rfl
theorem attrsL_bad {acc : List (List UInt8 × List UInt8)} {l : List UInt8} (h0 : Lib.hasPrefix (skipL l) [62] = false) (h1 : Lib.hasPrefix (skipL l) [47, 62] = false) (h : attrL (skipL l) = none) : attrsL acc l = none := by
  rw [attrsL_more h0 h1, h]
  split <;> rfl
theorem attrsL_near {acc : List (List UInt8 × List UInt8)} {l : List UInt8} (h0 : Lib.hasPrefix (skipL l) [62] = false) (h1 : Lib.hasPrefix (skipL l) [47, 62] = false) (h : spB l = false) : attrsL acc l = none := by
  rw [attrsL_more h0 h1, if_pos (spB_false h)]
theorem attrsL_twice {acc : List (List UInt8 × List UInt8)} {l rest : List UInt8} {a : List UInt8 × List UInt8} (h0 : Lib.hasPrefix (skipL l) [62] = false) (h1 : Lib.hasPrefix (skipL l) [47, 62] = false) (h : attrL (skipL l) = some (a, rest)) (h2 : (acc.map (·.1)).contains a.1 = true) : attrsL acc l = none := by
  rw [attrsL_more h0 h1, h]
  split
  · rfl
  · simp only []; rw [if_pos h2]
theorem attrsL_on {acc : List (List UInt8 × List UInt8)} {l rest : List UInt8} {a : List UInt8 × List UInt8} (h0 : Lib.hasPrefix (skipL l) [62] = false) (h1 : Lib.hasPrefix (skipL l) [47, 62] = false) (hs : spB l = true) (h : attrL (skipL l) = some (a, rest)) (h2 : (acc.map (·.1)).contains a.1 = false) : attrsL acc l = attrsL (acc ++ [a]) rest := by
  rw [attrsL_more h0 h1, if_neg (spB_true hs), h]
  simp only []
  rw [if_neg (by rw [h2]; decide)]
end Nwl
namespace Go.Proofs.YtkccockdnjjanaaGreatDoor
open Nwl
open Go.RowKit Go.Maps
set_option linter.unusedVariables false

theorem two_oneCell (a b : ByteArray) : ∀ u ∈ [Value.string a, Value.string b], u.oneCell' = true := by
  intro u hu
  simp at hu
  rcases hu with rfl | rfl <;> rfl
theorem info_at : (Tryz.prog.info? 61).map (fun i => (i.zero, i.size, i.bytes)) = some (some (.agg #[.string ⟨#[]⟩, .string ⟨#[]⟩]), 2, 32) := by kernel_rfl

theorem attrCells_snoc (acc : List (List UInt8 × List UInt8)) (a : List UInt8 × List UInt8) : attrCells (acc ++ [a]) = attrCells acc ++ [.string (tx a.1), .string (tx a.2)] := by
  simp [attrCells, List.flatMap_append]
/-- the row of attributes stays while the answer's box is written -/
theorem row_done {w1 : World} {base b n : Nat} {v : Value} {xs : List Value} {cs : Array Value} (hr : w1.ownsRow base 61 2 v n xs) (hb : Blk w1 b 53 cs) (u0 u1 u2 u3 u4 : Value) :
    (((((w1.setCell ⟨b, 0, none⟩ u0).setCell ⟨b, 1, none⟩ u1).setCell ⟨b, 2, none⟩ u2).setCell ⟨b, 3, none⟩ u3).setCell ⟨b, 4, none⟩ u4).ownsRow base 61 2 v n xs := by
  have h0 := own_ne hr hb (by decide)
  refine hr.kept (row := some b) ?_ (.inr h0)
  exact ((((grown_set _ _ _ _).trans (grown_set _ _ _ _)).trans (grown_set _ _ _ _)).trans (grown_set _ _ _ _)).trans (grown_set _ _ _ _)
end Go.Proofs.YtkccockdnjjanaaGreatDoor
