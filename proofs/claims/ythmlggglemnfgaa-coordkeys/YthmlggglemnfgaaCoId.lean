/-
  Contracts of coord.mayStand, Id, rightVersion, and of the document's Id, colon, Plain.
-/
import Derived.Test.YthmlggglemnfgaaBb
import Derived.Test.YthmlggglemnfgaaCoMath
import Derived.Test.YthmlggglemnfgaaShelf
import Derived.Deep.DeepCutAuto
namespace Go.Proofs.Ythmlggglemnfgaa
open Nwl
open Go.RowKit Go.Maps
set_option linter.unusedVariables false
set_option linter.unusedSimpArgs false

set_option maxHeartbeats 1000000 in
theorem idMay_c (c : Int) (w : World) :
    Calls Try.prog 10 #[.int .u8 c] w fun e w' => e = .returned (.bool (idI c)) ∧ w = w' := by
  go_enter Try.func10, Try.ntmps10
  go_wp2_with (go_at_call 15; refine (Digit_c _ _).mono ?_; rintro e w' ⟨rfl, rfl⟩)
  all_goals go_ret
  all_goals exact ⟨ret_bool (by rw [Bool.eq_iff_iff]; simp [idI, letterI, upperI, digitI, *] <;> omega), rfl⟩

set_option maxRecDepth 100000 in
set_option maxHeartbeats 1000000 in
theorem Id_c (s : ByteArray) (w : World) (hs : s.size ≤ 1000000000000000) (r : Bool) (hr : idL (bs s) = r) :
    Calls Try.prog 6 #[.string s] w fun e w' => e = .returned (.bool r) ∧ w = w' := by
  subst hr
  by_cases h0 : s.size = 0
  · have he : s.toList = [] := toList_nil_of s h0
    have HR := Lib.hid (id_short s h0)
    clear h0
    go_enter Try.func6, Try.ntmps6
    go_wp2_with fail
    go_step3
    go_wp2_with fail
    rw [Exit.noGoto_ret]
    go_ret
    exact ⟨ret_bool HR.out.symm, rfl⟩
  · have hne : (s.toList == []) = false := by rw [toList_bs]; have := bs_length s; cases h : bs s with
      | nil => rw [h] at this; simp at this; omega
      | cons => rfl
    by_cases hb : 500 < s.size
    · have HR := Lib.hid (id_long s hb)
      go_enter Try.func6, Try.ntmps6
      go_wp2_with fail
      go_step3
      go_wp2_with fail
      rw [Exit.noGoto_ret]
      go_ret
      exact ⟨ret_bool HR.out.symm, rfl⟩
    · go_enter Try.func6, Try.ntmps6
      go_wp2_with fail
      refine wp_scope_again 0 (fun a' w' => w = w' ∧ ∃ (k : Nat) (u4 u5 u6 u7 u8 u9 u10 u11 u12 u13 u14 u15 u16 u17 u18 u19 u20 u21 : Value), a' = { tmps := #[.string s, undef, .bool false, .int .i64 k, u4, u5, u6, u7, u8, u9, u10, u11, u12, u13, u14, u15, u16, u17, u18, u19, u20, u21], defers := [] } ∧ k ≤ s.size ∧ Hid (IdTo s k)) (fun a' _ => s.size - (intOf (a'.tmps.getD 3 undef)).toNat) rfl ?_ ?_
      · rintro a' w' ⟨rfl, k, u4, u5, u6, u7, u8, u9, u10, u11, u12, u13, u14, u15, u16, u17, u18, u19, u20, u21, rfl, hk, hm⟩
        by_cases hlt : k < s.size
        · cases hc : idI s[k].toNat with
          | true =>
            have hup := Lib.hid (idTo_up s k hlt hm.out hc)
            go_wp2_with (go_at_call 10; refine (idMay_c _ _).mono ?_; rintro e w' ⟨rfl, rfl⟩)
            go_step3
            refine ⟨rfl, ⟨rfl, k + 1, _, _, _, _, _, _, _, _, _, _, _, _, _, _, _, _, _, _, rfl, by omega, hup⟩, ?_⟩
            simp [intOf]
            omega
          | false =>
            have HR := Lib.hid (id_no s k hlt hc)
            go_wp2_with (go_at_call 10; refine (idMay_c _ _).mono ?_; rintro e w' ⟨rfl, rfl⟩)
            simp only [Exit.jump]
            go_ret
            exact ⟨ret_bool HR.out.symm, rfl⟩
        · obtain rfl : k = s.size := by omega
          have HR := Lib.hid (id_yes s (by omega) (by omega) hm.out)
          go_wp2_with fail
          simp only [Exit.jump]
          go_ret
          exact ⟨ret_bool HR.out.symm, rfl⟩
      · intro hpass
        go_wp2_with fail
        go_step3
        rename_i hK
        exact hK _ _ (hpass.out _ _ ⟨rfl, 0, _, _, _, _, _, _, _, _, _, _, _, _, _, _, _, _, _, _, rfl, by omega, idTo_start s⟩)

theorem colon_in (s : ByteArray) (w : World) (r : Bool) (hr : colL (bs s) = r) :
    Calls Try.prog 20 #[.string s, .string ⟨#[58]⟩] w fun e w' => e = .returned (.bool r) ∧ w = w' :=
  (Try.strings_Contains_one s 58 w).mono fun _ _ ⟨a, b⟩ => ⟨by rw [a, ← hr, colL_index]; rfl, b.symm⟩

theorem Right_bb (s : ByteArray) (w : World) (hs : s.size ≤ 1000000000000000) (r : Bool) (hr : rightV (bs s) = r) :
    Calls Try.prog 19 #[.string s] w fun e w' => e = .returned (.bool r) ∧ w = w' := by
  subst hr; exact Right_c s w (by unfold maxLen; omega)

set_option maxHeartbeats 1000000 in
theorem rightVersion_c (s : ByteArray) (w : World) (hs : s.size ≤ 1000000000000000) (r : Bool) (hr : verL (bs s) = r) :
    Calls Try.prog 17 #[.string s] w fun e w' => e = .returned (.bool r) ∧ w = w' := by
  obtain ⟨a, ha⟩ : ∃ a, rightV (bs s) = a := ⟨_, rfl⟩
  obtain ⟨b, hb⟩ : ∃ b, colL (bs s) = b := ⟨_, rfl⟩
  have e : (a && !b) = r := by rw [← ha, ← hb, ← hr]; rfl
  have HA := Lib.hid ha
  have HB := Lib.hid hb
  clear ha hb hr
  subst e
  cases a with
  | false =>
    go_enter Try.func17, Try.ntmps17
    go_wp2_with (go_at_call 19; refine (Right_bb _ _ hs false HA.out).mono ?_; rintro e w' ⟨rfl, rfl⟩)
    go_ret
    exact ⟨rfl, rfl⟩
  | true =>
    go_enter Try.func17, Try.ntmps17
    go_wp2_with (first | (go_at_call 19; refine (Right_bb _ _ hs true HA.out).mono ?_; rintro e w' ⟨rfl, rfl⟩) | (go_at_call 20; refine (colon_in _ _ b HB.out).mono ?_; rintro e w' ⟨rfl, rfl⟩))
    go_ret
    exact ⟨rfl, rfl⟩
end Go.Proofs.Ythmlggglemnfgaa
