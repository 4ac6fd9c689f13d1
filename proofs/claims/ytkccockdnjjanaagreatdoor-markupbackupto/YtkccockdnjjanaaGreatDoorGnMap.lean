/-
  Sets of names, as maps of nothing.
-/
import Derived.Test.YtkccockdnjjanaaGreatDoorBa
import Derived.Maps.OwnSet
import Derived.Maps.AppendAt
namespace Nwl
open Go
theorem has_keys (acc : List (List UInt8 × List UInt8)) (n : List UInt8) :
    Maps.has (Maps.setOf (H := Unit) (.agg []) (acc.map fun a => Lit.string a.1)) (.string n) = (acc.map (·.1)).contains n := by
  rw [Maps.has_setOf]
  · induction acc with
    | nil => rfl
    | cons a r ih =>
      simp only [List.map_cons, List.any_cons, List.contains_cons]
      rw [ih]
      congr 1
      show (a.1 == n) = (n == a.1)
      rw [Bool.eq_iff_iff, beq_iff_eq, beq_iff_eq]
      exact eq_comm
  · intro x hx
    obtain ⟨a, _, rfl⟩ := List.mem_map.1 hx
    trivial
/-- is a name among those taken? -/
def takenB (acc : List (List UInt8 × List UInt8)) (n : List UInt8) : Bool := (acc.map (·.1)).contains n
end Nwl
namespace Go.Proofs.YtkccockdnjjanaaGreatDoor
open Nwl
open Go.RowKit Go.Maps
set_option linter.unusedVariables false

theorem own_ne_map {w : World} {base b n m : Nat} {e k : TypeId} {size : Nat} {v : Value} {xs : List Value} {D : DataW Unit} {R : Value → Option (DataW Unit × List MemPlace)} (h : w.ownsRow base e size v n xs) (hm : w.ownsMap Tryz.prog k R b m D) : v.ownBlock ≠ some b := by
  rcases h.2 with ⟨rfl, _⟩ | ⟨g', cap, cur, rfl, _, hh, _⟩
  · simp [Value.ownBlock]
  · intro he
    have : g' = b := by simpa [Value.ownBlock] using he
    subst this
    obtain ⟨es, ck, hb, _⟩ := hm
    rw [hh] at hb
    cases hb
theorem zeroU (w : World) : (zeroValue 116).run Tryz.prog w = .ok (.agg #[]) w := by kernel_rfl
theorem lawS : Keyed Tryz.prog 9 := string_keyed Tryz.underlying9
/-- the names taken, as a set -/
def keysD (acc : List (List UInt8 × List UInt8)) : DataW Unit := setOf (.agg []) (acc.map fun a => Lit.string a.1)
theorem keysD_snoc (acc : List (List UInt8 × List UInt8)) (a : List UInt8 × List UInt8) : keysD (acc ++ [a]) = (keysD acc).put (.string a.1) (.agg []) := by
  unfold keysD
  rw [List.map_append]
  exact setOf_snoc _ _ _
theorem blk_ne_map {w : World} {b b' n : Nat} {t k : TypeId} {cs : Array Value} {D : DataW Unit} {R : Value → Option (DataW Unit × List MemPlace)} (h : Blk w b t cs) (hm : w.ownsMap Tryz.prog k R b' n D) : b ≠ b' := by
  intro e
  subst e
  obtain ⟨es, ck, hb, _⟩ := hm
  unfold Blk at h
  rw [h] at hb
  cases hb

end Go.Proofs.YtkccockdnjjanaaGreatDoor
