/-
  Contracts of the calls on texts that only read (chars, and the document's own answers).
-/
import Derived.Test.YtbpcoiblddhnjaaDoorChBytes
import Derived.LoopTactic
import Derived.Lib.Hide
namespace Go.Proofs.YtbpcoiblddhnjaaDoor
open Nwl
open Go.RowKit (Hid intOf)

theorem size_pos_of (s : ByteArray) (h : ¬ s.toList = []) : 0 < s.size := by
  rcases Nat.eq_zero_or_pos s.size with h0 | h0
  · exfalso; apply h; rw [ByteArray.toList_eq]; apply List.eq_nil_of_length_eq_zero; simpa using h0
  · exact h0
theorem toList_ne_of (s : ByteArray) (h : 0 < s.size) : ¬ s.toList = [] := by
  intro e
  rw [ByteArray.toList_eq] at e
  have h2 : s.data.toList.length = s.size := by simp
  rw [e] at h2
  simp at h2
  omega
theorem toList_nil_of (s : ByteArray) (h : s.size = 0) : s.toList = [] := by
  rw [ByteArray.toList_eq]; apply List.eq_nil_of_length_eq_zero; simpa using h

end Go.Proofs.YtbpcoiblddhnjaaDoor
