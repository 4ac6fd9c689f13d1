/-
  The walk of CharsMiddle: what stands between is not trimmed; of Spaces alone nothing is left.
-/
import Derived.Test.YthbeeojpdcaimaaChTrimLaw
import Derived.Deep.DeepCutAuto
namespace Nwl
def blankL (k : Nat) : List UInt8 := (List.replicate k [32, 9, 13, 10]).flatten
def blankB (k : Nat) : ByteArray := tx (blankL k)
theorem blankL_succ (k : Nat) : blankL k ++ [32, 9, 13, 10] = blankL (k + 1) := by
  unfold blankL; rw [List.replicate_succ', List.flatten_append]; simp
theorem blankB_succ (k : Nat) : blankB k ++ ⟨#[32, 9, 13, 10]⟩ = blankB (k + 1) := by
  apply bs_inj; rw [bs_append]; show blankL k ++ [32, 9, 13, 10] = blankL (k + 1); exact blankL_succ k
theorem blankL_all (k : Nat) : ∀ c ∈ blankL k, space8 c = true := by
  intro c hc
  unfold blankL at hc
  rw [List.mem_flatten] at hc
  obtain ⟨l, hl, hc⟩ := hc
  have := List.eq_of_mem_replicate hl
  subst this
  simp at hc
  rcases hc with rfl | rfl | rfl | rfl <;> rfl
theorem blankL_length (k : Nat) : (blankL k).length = 4 * k := by simp [blankL]; omega
theorem blankB_size (k : Nat) : (blankB k).size = 4 * k := by rw [blankB, tx_size, blankL_length]
theorem trim_blank (k : Nat) : trimB (blankB k) = ⟨#[]⟩ := by
  apply bs_inj
  have : trimL (blankL k) = [] := by
    have := trimL_left (blankL k) [] (blankL_all k)
    rw [List.append_nil] at this
    rw [this]; rfl
  show trimL (blankL k) = []
  exact this
theorem trim_middle (k : Nat) (s : ByteArray) : trimB (blankB k ++ ⟨#[120]⟩ ++ s ++ ⟨#[121]⟩ ++ blankB k) = ⟨#[120]⟩ ++ s ++ ⟨#[121]⟩ := by
  apply bs_inj
  unfold trimB
  rw [bs_tx]
  simp only [bs_append]
  have e : bs (blankB k) = blankL k := rfl
  rw [e, trimL_right _ _ (blankL_all k)]
  rw [List.append_assoc, List.append_assoc, trimL_left _ _ (blankL_all k), ← List.append_assoc]
  apply trimL_of_ends
  · intro _
    simp [bs]
    rfl
  · intro h
    have e2 : (bs ⟨#[120]⟩ ++ bs s ++ bs ⟨#[121]⟩).length - 1 = (bs ⟨#[120]⟩ ++ bs s).length := by simp [bs]
    simp only [e2]
    rw [List.getElem_append_right (Nat.le_refl _)]
    simp [bs]
    rfl
end Nwl
namespace Go.Proofs.Ythbeeojpdcaimaa
open Nwl
open Go.RowKit
set_option linter.unusedVariables false

theorem below20 (n : Int) : ∃ m : Nat, m < 20 ∧ wrap64 ((IntKind.u64.wrap n).tmod 20) = (m : Int) := by
  have h0 : 0 ≤ IntKind.u64.wrap n := by simp [IntKind.wrap, IntKind.signed, IntKind.bits]; omega
  rw [Int.tmod_eq_emod_of_nonneg h0]
  refine ⟨(IntKind.u64.wrap n % 20).toNat, by omega, ?_⟩
  unfold wrap64
  omega

set_option maxRecDepth 100000 in
set_option maxHeartbeats 1000000 in
theorem CharsMiddle_walk (s : ByteArray) (n : Int) (w : World) (hs : s.size ≤ maxLen) (hn : (Lit.int .i64 n).wf = true) :
    Calls Try.prog 7 #[.string s, .int .i64 n] w fun e w' => e = .returned (.bool true) ∧ Below w.heap.size w w' := by
  unfold maxLen at hs
  clear hn
  by_cases h1 : 200 < s.size
  · go_enter Try.func7, Try.ntmps7
    go_wp2_with (go_at_call 8; refine (awake_c _).mono ?_; rintro e w' ⟨rfl, hb⟩)
    go_ret
    exact ⟨rfl, hb⟩
  go_enter Try.func7, Try.ntmps7
  go_upto_region 4 with (fail)
  obtain ⟨m, hm, e⟩ := below20 n
  rw [e]
  clear e
  go_wp2
  go_loop [5, 6] (fun v i => ∃ k : Nat, k ≤ m ∧ i = .int .i64 k ∧ v = .string (blankB k)) (fun _ i => m - (intOf i).toNat)
  case atStart => exact ⟨0, Nat.zero_le _, rfl, rfl⟩
  case round =>
    obtain ⟨k, hk, rfl, rfl⟩ := hrel
    have hsz : Hid ((blankB k).size = 4 * k) := Lib.hid (blankB_size k)
    by_cases hlt : k < m
    · have hsu : Hid (blankB k ++ ⟨#[32, 9, 13, 10]⟩ = blankB (k + 1)) := Lib.hid (blankB_succ k)
      have hsz2 : (blankB k).size ≤ 80 := by rw [hsz.out]; omega
      go_wp2
      go_round
      case rel => exact ⟨k + 1, by omega, by go_num, by rw [← hsu.out]⟩
      case measure => simp [intOf]; omega
    · obtain rfl : k = m := by omega
      have hsz2 : (blankB k).size ≤ 80 := by rw [hsz.out]; omega
      have e1 := trim_blank k
      have e2 := trim_middle k s
      have hz3 : (blankB k ++ ⟨#[120]⟩ ++ s ++ ⟨#[121]⟩ ++ blankB k).size ≤ 600 := by
        rw [← bs_length]; simp only [bs_append, List.length_append, bs_length]; show (blankB k).size + 1 + s.size + 1 + (blankB k).size ≤ 600; omega
      go_wp2_with (first
        | (go_at_call 8; refine (awake_c _).mono ?_; rintro e w1 ⟨rfl, hb⟩)
        | (go_at_call 17; refine (Trim_600 _ _ (by omega)).mono ?_; rintro e w' ⟨rfl, rfl⟩))
      go_ret
      exact ⟨rfl, hb⟩
end Go.Proofs.Ythbeeojpdcaimaa
