/-
  Contracts of the numbers of entities (layer 2): mayStand, ParseUint of at most six digits to ten or sixteen.
-/
import Derived.Test.YtkccockdnjjanaaGreatDoorBa
import Derived.Laws.IdiomStrings
import Derived.Lib.ConvBytes
import Derived.Below
namespace Nwl
set_option linter.unusedVariables false
theorem or32_all : ∀ n : Nat, n < 256 → Go.bits .or .u8 (n : Int) 32 = ((n ||| 32 : Nat) : Int) := by decide +kernel
theorem or32 (c : UInt8) : Go.bits .or .u8 (c.toNat : Int) 32 = ((c.toNat ||| 32 : Nat) : Int) := or32_all _ c.toNat_lt
/-- what ParseUint answers -/
def puVal (E : Go.TypeId) (o : Option Nat) : Go.Value :=
  match o with
  | some v => .tuple #[.int .u64 (v : Int), .nilIface]
  | none => .tuple #[.int .u64 0, .iface E (.int .i64 2)]
/-- a byte with the bit 32 set -/
def slowI (c : Int) : Int := Go.bits .or .u8 c 32
theorem slowI_eq (c : UInt8) : slowI (c.toNat : Int) = ((c.toNat ||| 32 : Nat) : Int) := or32 c
theorem slowI_95 : slowI 95 = 127 := by decide +kernel
theorem or32_facts : ∀ n : Nat, n < 256 → (n ||| 32 < 256) ∧ ((97 ≤ n ||| 32 ∧ n ||| 32 ≤ 102) ↔ ((97 ≤ n ∧ n ≤ 102) ∨ (65 ≤ n ∧ n ≤ 70))) ∧ ((97 ≤ n ∧ n ≤ 102) → n ||| 32 = n) ∧ ((65 ≤ n ∧ n ≤ 70) → n ||| 32 = n + 32) ∧ (n ||| 32 = 95 → False) := by decide +kernel
theorem digV_digit (base : Nat) (c : UInt8) (h : 48 ≤ c.toNat ∧ c.toNat ≤ 57) : digV base c = some (c.toNat - 48) := by
  unfold digV
  rw [if_pos (by simp [digitI]; omega)]
theorem digV_ten (c : UInt8) (h : ¬ (48 ≤ c.toNat ∧ c.toNat ≤ 57)) : digV 10 c = none := by
  unfold digV
  have hd : ¬ digitI c.toNat = true := by simp [digitI]; omega
  rw [if_neg hd, if_neg (fun e => by simp at e), if_neg (fun e => by simp at e)]
theorem digV_hex (c : UInt8) (h : ¬ (48 ≤ c.toNat ∧ c.toNat ≤ 57)) (h1 : 97 ≤ c.toNat ||| 32 ∧ c.toNat ||| 32 ≤ 102) : digV 16 c = some ((c.toNat ||| 32) - 87) := by
  obtain ⟨_, h2, h3, h4, _⟩ := or32_facts c.toNat c.toNat_lt
  unfold digV
  rw [if_neg (by simp [digitI]; omega)]
  rcases h2.1 h1 with h5 | h5
  · rw [if_pos ⟨rfl, h5⟩, h3 h5]
  · rw [if_neg (by omega), if_pos ⟨rfl, h5⟩, h4 h5]
    congr 1
theorem digV_nohex (c : UInt8) (h : ¬ (48 ≤ c.toNat ∧ c.toNat ≤ 57)) (h1 : ¬ (97 ≤ c.toNat ||| 32 ∧ c.toNat ||| 32 ≤ 102)) : digV 16 c = none := by
  obtain ⟨_, h2, _⟩ := or32_facts c.toNat c.toNat_lt
  unfold digV
  rw [if_neg (by simp [digitI]; omega), if_neg (fun e => h1 (h2.2 (.inl e.2))), if_neg (fun e => h1 (h2.2 (.inr e.2)))]
theorem pow16_le : ∀ k : Nat, k < 6 → 16 ^ k ≤ 1048576 := by decide
theorem valF_digit {base v d : Nat} {c : UInt8} {r : List UInt8} (h : digV base c = some d) : valF base v (c :: r) = valF base (v * base + d) r := by
  rw [valF, h]
theorem valF_none {base v : Nat} {c : UInt8} {r : List UInt8} (h : digV base c = none) : valF base v (c :: r) = none := by
  rw [valF, h]
end Nwl
namespace Go.Proofs.YtkccockdnjjanaaGreatDoor
open Nwl
open Go.RowKit

theorem ret_int {k : IntKind} {a b : Int} (h : a = b) : Ending.returned (.int k a) = .returned (.int k b) := by rw [h]

set_option maxHeartbeats 400000 in
theorem mayStand_c (c : Int) (w : World) (_h0 : 0 ≤ c) (_h1 : c ≤ 2147483647) :
    Calls Tryz.prog 130 #[.int .i32 c] w fun e w' => e = .returned (.bool (mayI c)) ∧ w = w' := by
  go_enter Tryz.func130, Tryz.ntmps130
  go_wp2
  all_goals go_ret
  all_goals exact ⟨ret_bool (by rw [Bool.eq_iff_iff]; simp [mayI]; omega), rfl⟩

set_option maxHeartbeats 400000 in
theorem slower_c (c : Int) (w : World) :
    Calls Tryz.prog 136 #[.int .u8 c] w fun e w' => e = .returned (.int .u8 (slowI c)) ∧ w = w' := by
  go_enter Tryz.func136, Tryz.ntmps136
  go_wp2
  go_ret
  exact ⟨rfl, rfl⟩

theorem ret_tup2 {k : IntKind} {a b : Int} {v : Value} (h : a = b) : Ending.returned (.tuple #[.int k a, v]) = .returned (.tuple #[.int k b, v]) := by rw [h]

/-- the pieces of '[]byte(s)' that a walk takes -/
theorem bytes_made (s : ByteArray) (w : World) : ∃ (C : Array Value) (cap : Nat),
    (convert 9 45 (.string s)).run Tryz.prog w = .ok (.slice (some ⟨w.heap.size, 0, none⟩) s.size cap) (w.drew.alloc (.cells C 5 (C.size, C.size + 1))) ∧
    (∀ j (hj : j < s.size), (w.drew.alloc (.cells C 5 (C.size, C.size + 1))).cell? ⟨w.heap.size, j, none⟩ = some (.int .u8 (s[j].toNat : Int))) := by
  have hconv := run_bytes_of_string (P := Tryz.prog) w 9 45 5 s Tryz.underlying9 Tryz.underlying45 Tryz.underlying5
  have hC : ∀ j (hj : j < s.size), (bytesRow s (grownCap w s.size 0 5))[j]? = some (.int .u8 (s[j].toNat : Int)) := fun j hj => bytesRow_at s _ j hj
  exact ⟨_, _, hconv, fun j hj => (World.cell?_alloc_mark w.drew _ 5 (_, _ + 1) j).trans (hC j hj)⟩

theorem drop_get (s : ByteArray) (k : Nat) (h : k < s.size) : (bs s).drop k = s[k] :: (bs s).drop (k + 1) :=
  List.drop_eq_getElem_cons (by rw [bs_length]; exact h)

end Go.Proofs.YtkccockdnjjanaaGreatDoor
