/-
  Contracts of the calls on texts that only read (chars, and the document's own answers).
-/
import Derived.Test.YtdcgeobimenlpaaChBytes
import Derived.LoopTactic
import Derived.Lib.Hide
namespace Go.Proofs.Ytdcgeobimenlpaa
open Nwl
open Go.RowKit (Hid intOf)

theorem size_pos_of (s : ByteArray) (h : ¬ s.toList = []) : 0 < s.size := by
  rcases Nat.eq_zero_or_pos s.size with h0 | h0
  · exfalso; apply h; rw [ByteArray.toList_eq]; apply List.eq_nil_of_length_eq_zero; simpa using h0
  · exact h0
theorem toList_ne_of (s : ByteArray) (h : 0 < s.size) : ¬ s.toList = [] := by
  intro e
  rw [ByteArray.toList_eq] at e
  have h2 : s.data.toList.length = s.size := by simp
  rw [e] at h2
  simp at h2
  omega
theorem toList_nil_of (s : ByteArray) (h : s.size = 0) : s.toList = [] := by
  rw [ByteArray.toList_eq]; apply List.eq_nil_of_length_eq_zero; simpa using h

set_option maxHeartbeats 400000 in
theorem Name_c (s : ByteArray) (w : World) (hs : s.size ≤ maxLen) :
    Calls Try.prog 19 #[.string s] w fun e w' => e = .returned (.bool (nameB s)) ∧ w = w' := by
  unfold maxLen at hs
  by_cases hp : 0 < s.size
  · have h1 : ¬ s.toList = [] := toList_ne_of s hp
    have h2 : s.toList.isEmpty = false := by simpa using h1
    cases hb : beginI s[0].toNat with
    | false =>
      have hn : Hid (nameB s = false) := Lib.hid (nameB_not fun ⟨_, h, _⟩ => by rw [hb] at h; cases h)
      go_enter Try.func19, Try.ntmps19
      go_wp2_with (go_at_call 28; refine (begins_c _ _).mono ?_; rintro e w' ⟨rfl, rfl⟩)
      go_ret
      exact ⟨ret_bool hn.out.symm, rfl⟩
    | true =>
      go_enter Try.func19, Try.ntmps19
      go_wp2_with (go_at_call 28; refine (begins_c _ _).mono ?_; rintro e w' ⟨rfl, rfl⟩)
      go_loop [3] (fun i => ∃ k : Nat, 1 ≤ k ∧ k ≤ s.size ∧ i = .int .i64 k ∧ WithinTo s 1 k) (fun i => s.size - (intOf i).toNat)
      case atStart => exact ⟨1, by omega, by omega, rfl, withinTo_start _ _⟩
      case round =>
        obtain ⟨k, hk1, hk, rfl, hw⟩ := hrel
        by_cases hlt : k < s.size
        · cases hc : withinI s[k].toNat with
          | false =>
            have hn : Hid (nameB s = false) := Lib.hid (nameB_not fun ⟨_, _, h⟩ => by have := h k hlt hk1 hlt; rw [hc] at this; cases this)
            go_wp2_with (go_at_call 29; refine (continues_c _ _).mono ?_; rintro e w' ⟨rfl, rfl⟩)
            go_ret
            exact ⟨ret_bool hn.out.symm, rfl⟩
          | true =>
            have hw' := withinTo_succ s 1 k hlt hw hc
            go_wp2_with (go_at_call 29; refine (continues_c _ _).mono ?_; rintro e w' ⟨rfl, rfl⟩)
            go_round
            case rel => exact ⟨k + 1, by omega, by omega, by go_num, hw'⟩
            case measure => simp [intOf]; omega
        · have hn : Hid (nameB s = true) := Lib.hid ((nameB_iff s).2 ⟨hp, hb, withinTo_end s 1 k hw (by omega)⟩)
          go_wp2
          go_ret
          exact ⟨ret_bool hn.out.symm, rfl⟩
  · have h1 : s.toList = [] := toList_nil_of s (by omega)
    have hn : Hid (nameB s = false) := Lib.hid (nameB_not fun ⟨h, _⟩ => hp h)
    go_enter Try.func19, Try.ntmps19
    go_wp2
    go_ret
    exact ⟨ret_bool hn.out.symm, rfl⟩

end Go.Proofs.Ytdcgeobimenlpaa
