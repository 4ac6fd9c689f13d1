/-
  The document's own answers (layers 1 to 3): find, begins, all.
-/
import Derived.Test.YtkccockdnjjanaaGreatDoorBa
namespace Nwl
open Go
/-- where a text stands, from a place on -/
def findI (S X : List UInt8) (k : Nat) : Int := if 0 ≤ Lib.index (S.drop k) X then k + Lib.index (S.drop k) X else -1
/-- from k up to i it does not stand -/
def NotTo (s x : ByteArray) (k i : Nat) : Prop := ∀ j, k ≤ j → j < i → (bs x).isPrefixOf ((bs s).drop j) = false
theorem notTo_start (s x : ByteArray) (k : Nat) : NotTo s x k k := fun j h1 h2 => by omega
theorem notTo_succ {s x : ByteArray} {k i : Nat} (h : NotTo s x k i) (hb : (bs x).isPrefixOf ((bs s).drop i) = false) : NotTo s x k (i + 1) := fun j h1 h2 => by
  rcases Nat.lt_or_ge j i with h3 | h3
  · exact h j h1 h3
  · obtain rfl : j = i := by omega
    exact hb
theorem pre_extract (s x : ByteArray) (i : Nat) : ((s.extract i (i + x.size)).toList == x.toList) = (bs x).isPrefixOf ((bs s).drop i) := by
  rw [ByteArray.toList_eq, ByteArray.toList_eq]
  have h1 : (s.extract i (i + x.size)).data.toList = ((bs s).drop i).take x.size := by
    have := bs_extract s i (i + x.size)
    rw [Nat.add_sub_cancel_left] at this
    exact this
  rw [h1, Bool.eq_iff_iff, beq_iff_eq, List.isPrefixOf_iff_prefix, List.prefix_iff_eq_take, bs_length]
  exact eq_comm
theorem find_hit {s x : ByteArray} {k i : Nat} (hk : k ≤ i) (h : NotTo s x k i) (hb : (bs x).isPrefixOf ((bs s).drop i) = true) (hi : i ≤ s.size) : findI (bs s) (bs x) k = i := by
  have h1 : Lib.index ((bs s).drop k) (bs x) = ((i - k : Nat) : Int) := by
    refine Lib.index_first (by rw [List.length_drop, bs_length]; omega) ?_ ?_
    · unfold Lib.occAt
      rw [List.drop_drop, show k + (i - k) = i by omega]
      exact hb
    · intro j hj
      unfold Lib.occAt
      rw [List.drop_drop]
      exact h (k + j) (by omega) (by omega)
  unfold findI
  rw [h1, if_pos (by omega)]
  omega
theorem find_end {s x : ByteArray} {k i : Nat} (h : NotTo s x k i) (hx : 0 < x.size) (hi : s.size < i + x.size) : findI (bs s) (bs x) k = -1 := by
  have h1 : Lib.index ((bs s).drop k) (bs x) = -1 := by
    refine Lib.index_none ?_
    intro j hj
    unfold Lib.occAt
    rw [List.drop_drop]
    rcases Nat.lt_or_ge (k + j) i with h2 | h2
    · exact h (k + j) (by omega) h2
    · cases e : (bs x).isPrefixOf ((bs s).drop (k + j)) with
      | false => rfl
      | true =>
        have := (List.isPrefixOf_iff_prefix.1 e).length_le
        rw [List.length_drop, bs_length, bs_length] at this
        omega
  unfold findI
  rw [h1, if_neg (by omega)]
end Nwl
namespace Go.Proofs.YtkccockdnjjanaaGreatDoor
open Nwl
open Go.RowKit Go.Maps
set_option linter.unusedVariables false

set_option maxRecDepth 100000 in
set_option maxHeartbeats 400000 in
theorem find_c (s x : ByteArray) (k : Nat) (w : World) (hs : s.size ≤ 1000000) (hx : 0 < x.size) (hx2 : x.size ≤ 1000) (hk : k ≤ 1000000) :
    Calls Tryz.prog 78 #[.string s, .string x, .int .i64 (k : Int)] w fun e w' => e = .returned (.int .i64 (findI (bs s) (bs x) k)) ∧ w = w' := by
  go_enter Tryz.func78, Tryz.ntmps78
  go_wp2_with fail
  go_loop [7] (fun iv => ∃ i : Nat, k ≤ i ∧ i ≤ 1000001 ∧ iv = .int .i64 i ∧ NotTo s x k i) (fun iv => s.size + 1 - (intOf iv).toNat)
  case atStart => exact ⟨k, Nat.le_refl _, by omega, rfl, notTo_start _ _ _⟩
  case round =>
    obtain ⟨i, hki, hi6, rfl, hnt⟩ := hrel
    have HNT := Lib.hid hnt
    clear hnt
    by_cases hle : i + x.size ≤ s.size
    · have hpe := pre_extract s x i
      have hleI : (i : Int) + (x.size : Int) ≤ s.size := by omega
      cases hb : (bs x).isPrefixOf ((bs s).drop i) with
      | true =>
        rw [hb] at hpe
        have HX : Hid ((i : Int) = findI (bs s) (bs x) k) := Lib.hid (find_hit hki HNT.out hb (by omega)).symm
        clear hb
        go_wp2_with fail
        go_ret
        exact ⟨by rw [← HX.out]; rfl, rfl⟩
      | false =>
        rw [hb] at hpe
        have HX := Lib.hid (notTo_succ HNT.out hb)
        clear hb
        go_wp2_with fail
        go_round
        case rel => exact ⟨i + 1, by omega, by omega, by go_num, HX.out⟩
        case measure => simp [intOf]; omega
    · have hleI : ¬ (i : Int) + (x.size : Int) ≤ s.size := by omega
      have HX : Hid (-1 = findI (bs s) (bs x) k) := Lib.hid (find_end HNT.out hx (by omega)).symm
      go_wp2_with fail
      go_ret
      exact ⟨by rw [← HX.out]; rfl, rfl⟩

set_option maxRecDepth 100000 in
set_option maxHeartbeats 400000 in
theorem begins_c' (s x : ByteArray) (k : Nat) (w : World) (hs : s.size ≤ 1000000) (hx : 0 < x.size) (hx2 : x.size ≤ 1000) (hk : k ≤ 1000000) :
    Calls Tryz.prog 73 #[.string s, .string x, .int .i64 (k : Int)] w fun e w' => e = .returned (.bool (Lib.hasPrefix ((bs s).drop k) (bs x))) ∧ w = w' := by
  have hpe := pre_extract s x k
  by_cases hle : k + x.size ≤ s.size
  · obtain ⟨f, hf⟩ : ∃ f : Bool, (bs x).isPrefixOf ((bs s).drop k) = f := ⟨_, rfl⟩
    rw [hf] at hpe
    have HF : Hid (f = Lib.hasPrefix ((bs s).drop k) (bs x)) := Lib.hid (by rw [← hf]; rfl)
    have hleI : (k : Int) + (x.size : Int) ≤ s.size := by omega
    clear hf
    go_enter Tryz.func73, Tryz.ntmps73
    go_wp2_with fail
    go_ret
    exact ⟨ret_bool HF.out, rfl⟩
  · have HF : Hid (false = Lib.hasPrefix ((bs s).drop k) (bs x)) := Lib.hid (by
      symm
      cases e : Lib.hasPrefix ((bs s).drop k) (bs x) with
      | false => rfl
      | true =>
        have := prefix_len e
        rw [List.length_drop, bs_length, bs_length] at this
        omega)
    have hleI : ¬ (k : Int) + (x.size : Int) ≤ s.size := by omega
    go_enter Tryz.func73, Tryz.ntmps73
    go_wp2_with fail
    go_ret
    exact ⟨ret_bool HF.out, rfl⟩

set_option maxRecDepth 100000 in
set_option maxHeartbeats 400000 in
theorem refall_c (s : ByteArray) (w : World) (hs : s.size ≤ maxLen) :
    Calls Tryz.prog 33 #[.string s] w fun e w' => e = .returned (.bool (allL (bs s))) ∧ w = w' := by
  unfold maxLen at hs
  go_enter Tryz.func33, Tryz.ntmps33
  go_wp2
  go_loop [3] (fun i => ∃ k : Nat, k ≤ s.size ∧ i = .int .i64 k ∧ AllowTo s k) (fun i => s.size - (intOf i).toNat)
  case atStart => exact ⟨0, by omega, rfl, allowTo_zero _⟩
  case round =>
    obtain ⟨k, hk, rfl, hall⟩ := hrel
    by_cases hlt : k < s.size
    · cases hc : allowedI s[k].toNat with
      | true =>
        have hup := allowTo_succ hall hlt hc
        go_wp2_with (go_at_call 52; refine (refAllowed_c _ _).mono ?_; rintro e w' ⟨rfl, rfl⟩)
        go_round
        case rel => exact ⟨k + 1, by omega, by go_num, hup⟩
        case measure => simp [intOf]; omega
      | false =>
        have HN := Lib.hid (allowTo_no hlt hc)
        go_wp2_with (go_at_call 52; refine (refAllowed_c _ _).mono ?_; rintro e w' ⟨rfl, rfl⟩)
        go_ret
        exact ⟨ret_bool HN.out.symm, rfl⟩
    · have HN := Lib.hid (allowTo_end hall (by omega))
      go_wp2
      go_ret
      exact ⟨ret_bool HN.out.symm, rfl⟩
end Go.Proofs.YtkccockdnjjanaaGreatDoor
