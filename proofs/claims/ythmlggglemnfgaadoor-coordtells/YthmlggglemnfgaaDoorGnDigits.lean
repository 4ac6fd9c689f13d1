/-
  A number's digits: plain facts, and newelhelp.Digits.
-/
import Derived.Test.YthmlggglemnfgaaDoorBd
import Derived.Deep.RegionWith
import Derived.BigRegion
import Derived.Laws.IdiomStrings
namespace Nwl
open Go
theorem u8n (x : Nat) (h : x < 256) : (x.toUInt8).toNat = x := by
  show x % 256 = x
  omega
def digN (d : Nat) : UInt8 := (48 + d).toUInt8
theorem digN_nat (d : Nat) (h : d < 10) : (digN d).toNat = 48 + d := u8n _ (by omega)
/-- the digits of v, in tens, if it has at most k of them -/
def decF : Nat → Nat → List UInt8
  | 0, _ => []
  | k + 1, v => if v < 10 then [digN v] else decF k (v / 10) ++ [digN (v % 10)]
theorem decF_dig : ∀ (k v : Nat), ∀ c ∈ decF k v, 48 ≤ c.toNat ∧ c.toNat ≤ 57
  | 0, v, c, h => by simp [decF] at h
  | k + 1, v, c, h => by
    unfold decF at h
    by_cases hv : v < 10
    · rw [if_pos hv] at h
      obtain rfl := List.mem_singleton.1 h
      rw [digN_nat v hv]; omega
    · rw [if_neg hv, List.mem_append] at h
      rcases h with h | h
      · exact decF_dig k _ c h
      · obtain rfl := List.mem_singleton.1 h
        rw [digN_nat _ (by omega)]; omega
theorem decF_ne : ∀ (k v : Nat), 0 < k → decF k v ≠ []
  | 0, v, h => by omega
  | k + 1, v, h => by
    unfold decF
    split <;> simp
theorem decF_le : ∀ (k v : Nat), (decF k v).length ≤ k
  | 0, v => by simp [decF]
  | k + 1, v => by
    unfold decF
    have := decF_le k (v / 10)
    split <;> simp <;> omega
theorem decF_len : ∀ (k m v : Nat), v < 10 ^ m → 0 < m → (decF k v).length ≤ m
  | 0, m, v, h, hm => by simp [decF]
  | k + 1, m, v, h, hm => by
    unfold decF
    by_cases hv : v < 10
    · rw [if_pos hv, List.length_singleton]; omega
    · rw [if_neg hv, List.length_append, List.length_singleton]
      obtain ⟨m, rfl⟩ : ∃ x, m = x + 1 := ⟨m - 1, by omega⟩
      rw [Nat.pow_succ] at h
      have hm0 : 0 < m := by
        rcases Nat.eq_zero_or_pos m with e | e
        · subst e; omega
        · exact e
      have := decF_len k m (v / 10) (by omega) hm0
      omega
theorem decF_long : ∀ (k m v : Nat), v < 10 ^ k → 10 ^ m ≤ v → m < (decF k v).length
  | 0, m, v, h, hm => by
    have : 0 < 10 ^ m := Nat.pow_pos (by decide)
    omega
  | k + 1, m, v, h, hm => by
    unfold decF
    by_cases hv : v < 10
    · rw [if_pos hv, List.length_singleton]
      rcases Nat.eq_zero_or_pos m with e | e
      · omega
      · obtain ⟨m, rfl⟩ : ∃ x, m = x + 1 := ⟨m - 1, by omega⟩
        rw [Nat.pow_succ] at hm
        have : 0 < 10 ^ m := Nat.pow_pos (by decide)
        omega
    · rw [if_neg hv, List.length_append, List.length_singleton]
      rcases Nat.eq_zero_or_pos m with e | e
      · subst e; omega
      · obtain ⟨m, rfl⟩ : ∃ x, m = x + 1 := ⟨m - 1, by omega⟩
        rw [Nat.pow_succ] at hm h
        have := decF_long k m (v / 10) (by omega) (by omega)
        omega
end Nwl
namespace Go.Proofs.YthmlggglemnfgaaDoor
open Nwl
open Go.RowKit Go.Maps
set_option linter.unusedVariables false

theorem one_text (w : World) (b : Nat) (d : Nat) (hd : d < 10) (hc : w.cell? ⟨b, 0, none⟩ = some (.int .u8 (48 + (d : Int)))) :
    (convert 64 9 (.slice (some ⟨b, 0, none⟩) 1 1)).run Tryd.prog w = .ok (.string (tx [digN d])) w :=
  run_convert_bytes_back (P := Tryd.prog) w 64 9 5 ⟨b, 0, none⟩ 1 [digN d] Tryd.underlying64 Tryd.underlying5 Tryd.underlying9 (fun j hj => by
    have : j = 0 := by simpa using hj
    subst this
    show w.cell? ⟨b, 0, none⟩ = some (.int .u8 ((digN d).toNat : Int))
    rw [hc, digN_nat d hd]
    rfl)

theorem kept_cell {w w2 : World} {t : TypeId} {z : Int} (h : Below (w.drew.alloc (.cells #[.int .u8 z] t)).heap.size (w.drew.alloc (.cells #[.int .u8 z] t)) w2) : w2.cell? ⟨w.heap.size, 0, none⟩ = some (.int .u8 z) := by
  rw [h.cell (p := ⟨w.heap.size, 0, none⟩) (by show w.heap.size < (w.heap.push _).size; simp)]
  have := (Blk.new w.drew t #[.int .u8 z]).cell 0
  exact this
theorem kept_below {w w2 : World} {o : Obj} (h : Below (w.drew.alloc o).heap.size (w.drew.alloc o) w2) : Below w.heap.size w w2 := by
  have h1 : Below w.heap.size w (w.drew.alloc o) := ((Below.refl _ _).drew).alloc (Nat.le_refl _) _
  exact h1.trans (h.mono h1.size)

end Go.Proofs.YthmlggglemnfgaaDoor