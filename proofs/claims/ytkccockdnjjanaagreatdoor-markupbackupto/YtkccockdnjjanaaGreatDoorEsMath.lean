/-
  A text escaped: plain facts.
-/
import Derived.Test.YtkccockdnjjanaaGreatDoorBa
namespace Nwl
open Go
def esc1 (c : UInt8) : List UInt8 := if c = 38 then [38, 97, 109, 112, 59] else if c = 60 then [38, 108, 116, 59] else if c = 62 then [38, 103, 116, 59] else if c = 34 then [38, 113, 117, 111, 116, 59] else [c]
def escL : List UInt8 → List UInt8
  | [] => []
  | c :: r => esc1 c ++ escL r
theorem escL_append : ∀ a b : List UInt8, escL (a ++ b) = escL a ++ escL b
  | [], b => rfl
  | c :: a, b => by rw [List.cons_append, escL, escL, escL_append a b, List.append_assoc]
theorem esc1_len (c : UInt8) : 1 ≤ (esc1 c).length ∧ (esc1 c).length ≤ 6 := by
  unfold esc1; repeat' split
  all_goals simp
theorem escL_len : ∀ l : List UInt8, (escL l).length ≤ 6 * l.length
  | [] => by simp [escL]
  | c :: l => by
    have h1 := esc1_len c
    have h2 := escL_len l
    rw [escL, List.length_append, List.length_cons]; omega
theorem esc_mem {l : List UInt8} {d : UInt8} (h : d ∈ escL l) : (d ∈ l ∧ d ≠ 38 ∧ d ≠ 60 ∧ d ≠ 62 ∧ d ≠ 34) ∨ d ∈ [38, 97, 109, 112, 59, 108, 116, 103, 113, 117, 111] := by
  induction l with
  | nil => simp [escL] at h
  | cons c l ih =>
    rw [escL, List.mem_append] at h
    rcases h with h | h
    · unfold esc1 at h
      by_cases h1 : c = 38
      · rw [if_pos h1] at h; exact .inr ((by decide : ∀ d ∈ ([38, 97, 109, 112, 59] : List UInt8), d ∈ ([38, 97, 109, 112, 59, 108, 116, 103, 113, 117, 111] : List UInt8)) d h)
      rw [if_neg h1] at h
      by_cases h2 : c = 60
      · rw [if_pos h2] at h; exact .inr ((by decide : ∀ d ∈ ([38, 108, 116, 59] : List UInt8), d ∈ ([38, 97, 109, 112, 59, 108, 116, 103, 113, 117, 111] : List UInt8)) d h)
      rw [if_neg h2] at h
      by_cases h3 : c = 62
      · rw [if_pos h3] at h; exact .inr ((by decide : ∀ d ∈ ([38, 103, 116, 59] : List UInt8), d ∈ ([38, 97, 109, 112, 59, 108, 116, 103, 113, 117, 111] : List UInt8)) d h)
      rw [if_neg h3] at h
      by_cases h4 : c = 34
      · rw [if_pos h4] at h; exact .inr ((by decide : ∀ d ∈ ([38, 113, 117, 111, 116, 59] : List UInt8), d ∈ ([38, 97, 109, 112, 59, 108, 116, 103, 113, 117, 111] : List UInt8)) d h)
      rw [if_neg h4] at h
      obtain rfl := List.mem_singleton.1 h
      exact .inl ⟨by simp, h1, h2, h3, h4⟩
    · rcases ih h with ⟨a, b⟩ | a
      · exact .inl ⟨List.mem_cons_of_mem _ a, b⟩
      · exact .inr a
theorem esc_60 (l : List UInt8) : 60 ∉ escL l := fun h => by
  rcases esc_mem h with ⟨_, _, h2, _⟩ | h
  · exact h2 rfl
  · revert h; decide
theorem esc_34 (l : List UInt8) : 34 ∉ escL l := fun h => by
  rcases esc_mem h with ⟨_, _, _, _, h2⟩ | h
  · exact h2 rfl
  · revert h; decide
theorem esc_take (s : ByteArray) (k : Nat) (hk : k < s.size) : escL ((bs s).take (k + 1)) = escL ((bs s).take k) ++ esc1 s[k] := by
  rw [List.take_succ_eq_append_getElem (by rw [bs_length]; exact hk), escL_append]
  simp [escL, bs_get s k hk]
end Nwl
