/-
  Numbers that a law makes of its arguments; one byte as a text.
-/
import Derived.Test.YtlblhoeekcglpaaBa
import Derived.Laws.IdiomStrings
namespace Nwl
open Go
theorem idxN (a n : Int) (h0 : 0 < n) (h1 : n ≤ 2147483648) : ∃ x : Nat, Go.RowKit.wrap64 ((IntKind.u64.wrap a).tmod n) = (x : Int) ∧ (x : Int) < n := by
  have hu : 0 ≤ IntKind.u64.wrap a := by rw [IntKind.wrap_u64]; omega
  have h2 : (IntKind.u64.wrap a).tmod n = (IntKind.u64.wrap a) % n := Int.tmod_eq_emod_of_nonneg hu
  have h3 := Int.emod_nonneg (IntKind.u64.wrap a) (show n ≠ 0 by omega)
  have h4 := Int.emod_lt_of_pos (IntKind.u64.wrap a) h0
  rw [h2]
  have h5 : Go.RowKit.wrap64 (IntKind.u64.wrap a % n) = IntKind.u64.wrap a % n := by
    generalize IntKind.u64.wrap a % n = x at *
    unfold Go.RowKit.wrap64
    omega
  rw [h5]
  exact ⟨(IntKind.u64.wrap a % n).toNat, by omega, by omega⟩
theorem byteN (c : Int) (h : (Lit.int .u8 c).wf = true) : ∃ d : UInt8, c = (d.toNat : Int) := by
  have hb : 0 ≤ c ∧ c ≤ 255 := by
    unfold Lit.wf at h
    simp at h
    have e1 : IntKind.u8.min = 0 := by decide
    have e2 : IntKind.u8.max = 255 := by decide
    omega
  refine ⟨c.toNat.toUInt8, ?_⟩
  show c = ((c.toNat % 256 : Nat) : Int)
  omega
theorem txA (a b : List UInt8) : tx a ++ tx b = tx (a ++ b) := by
  apply bs_inj
  rw [bs_append, bs_tx, bs_tx, bs_tx]
end Nwl
namespace Go.Proofs.Ytlblhoeekcglpaa
open Nwl
open Go.RowKit Go.Maps
theorem one_byte (w : World) (b : Nat) (d : UInt8) (hc : w.cell? ⟨b, 0, none⟩ = some (.int .u8 (d.toNat : Int))) :
    (convert 45 9 (.slice (some ⟨b, 0, none⟩) 1 1)).run Try.prog w = .ok (.string (tx [d])) w :=
  run_convert_bytes_back (P := Try.prog) w 45 9 5 ⟨b, 0, none⟩ 1 [d] Try.underlying45 Try.underlying5 Try.underlying9 (fun j hj => by
    have : j = 0 := by simpa using hj
    subst this
    exact hc)
end Go.Proofs.Ytlblhoeekcglpaa
