/-
  Contracts of the document's own Id, colon, Plain.
-/
import Derived.Test.YthmlggglemnfgaaDoorCoId
import Derived.Test.YthmlggglemnfgaaDoorWa
namespace Go.Proofs.YthmlggglemnfgaaDoor
open Nwl
open Go.RowKit Go.Maps
set_option linter.unusedVariables false
set_option linter.unusedSimpArgs false

theorem refDigit_b (c : Int) (w : World) (r : Bool) (hr : digitI c = r) :
    Calls Tryd.prog 21 #[.int .u8 c] w fun e w' => e = .returned (.bool r) ∧ w = w' := by
  subst hr; exact refDigit_c c w
theorem dig_yes {c : Int} (h1 : 48 ≤ c) (h2 : c ≤ 57) : digitI c = true := by unfold digitI; simp; omega
theorem dig_not {c : Int} (h : ¬ (48 ≤ c ∧ c ≤ 57)) : digitI c = false := by unfold digitI; simp; omega
set_option maxRecDepth 100000 in
set_option maxHeartbeats 4000000 in
theorem rId_c (s : ByteArray) (w : World) (hs : s.size ≤ 1000000000000000) (r : Bool) (hr : idL (bs s) = r) :
    Calls Tryd.prog 10 #[.string s] w fun e w' => e = .returned (.bool r) ∧ w = w' := by
  have HR := Lib.hid hr
  clear hr
  go_enter Tryd.func10, Tryd.ntmps10
  go_wp2_with fail
  go_loop [3] (fun i => ∃ k : Nat, k ≤ s.size ∧ i = .int .i64 k ∧ Hid (IdTo s k)) (fun i => s.size - (intOf i).toNat)
  case atStart => exact ⟨0, by omega, rfl, Lib.hid (idTo_start s)⟩
  case round =>
    obtain ⟨k, hk, rfl, hm⟩ := hrel
    by_cases hlt : k < s.size
    · obtain ⟨c, hc⟩ : ∃ c : Int, (s[k].toNat : Int) = c := ⟨_, rfl⟩
      cases hmv : idI s[k].toNat with
      | true =>
        have hup := Lib.hid (idTo_up s k hlt hm.out hmv)
        rw [hc] at hmv
        have hways : (97 ≤ c ∧ c ≤ 122) ∨ (¬ 97 ≤ c ∧ 65 ≤ c ∧ c ≤ 90) ∨ (¬ 97 ≤ c ∧ ¬ 65 ≤ c ∧ 48 ≤ c ∧ c ≤ 57) ∨ c = 95 ∨ c = 45 ∨ c = 46 := by
          unfold idI letterI upperI digitI at hmv
          simp at hmv
          omega
        clear hmv hm
        rcases hways with ⟨h1, h2⟩ | ⟨h1, h2, h3⟩ | ⟨h1, h2, h3, h4⟩ | rfl | rfl | rfl
        · go_wp2_with fail
          go_round
          case rel => exact ⟨k + 1, by omega, by go_num, hup⟩
          case measure => simp [intOf]; omega
        · go_wp2_with fail
          go_round
          case rel => exact ⟨k + 1, by omega, by go_num, hup⟩
          case measure => simp [intOf]; omega
        · have HD := Lib.hid (dig_yes h3 h4)
          go_wp2_with (go_at_call 21; refine (refDigit_b _ _ true HD.out).mono ?_; rintro e w' ⟨rfl, rfl⟩)
          go_round
          case rel => exact ⟨k + 1, by omega, by go_num, hup⟩
          case measure => simp [intOf]; omega
        all_goals
          go_wp2_with (go_at_call 21; refine (refDigit_b _ _ false (by decide)).mono ?_; rintro e w' ⟨rfl, rfl⟩)
          go_round
          case rel => exact ⟨k + 1, by omega, by go_num, hup⟩
          case measure => simp [intOf]; omega
      | false =>
        have HF : Hid (false = r) := Lib.hid ((id_no s k hlt hmv).symm.trans HR.out)
        rw [hc] at hmv
        have hb : ¬ (97 ≤ c ∧ c ≤ 122) ∧ ¬ (65 ≤ c ∧ c ≤ 90) ∧ ¬ (48 ≤ c ∧ c ≤ 57) ∧ c ≠ 95 ∧ c ≠ 45 ∧ c ≠ 46 := by
          unfold idI letterI upperI digitI at hmv
          simp at hmv
          omega
        obtain ⟨h1, h2, h3, h4, h5, h6⟩ := hb
        have e4 : (c == 95) = false := by rw [beq_eq_false_iff_ne]; exact h4
        have e5 : (c == 45) = false := by rw [beq_eq_false_iff_ne]; exact h5
        have e6 : (c == 46) = false := by rw [beq_eq_false_iff_ne]; exact h6
        have HD := Lib.hid (dig_not h3)
        clear hm hmv h4 h5 h6 h3
        by_cases q1 : 97 ≤ c
        · have q2 : ¬ c ≤ 122 := fun h => h1 ⟨q1, h⟩
          have q3 : 65 ≤ c := by omega
          have q4 : ¬ c ≤ 90 := by omega
          clear h1 h2
          go_wp2_with (go_at_call 21; refine (refDigit_b _ _ false HD.out).mono ?_; rintro e w' ⟨rfl, rfl⟩)
          go_ret
          exact ⟨ret_bool HF.out, rfl⟩
        · by_cases q3 : 65 ≤ c
          · have q4 : ¬ c ≤ 90 := fun h => h2 ⟨q3, h⟩
            clear h1 h2
            go_wp2_with (go_at_call 21; refine (refDigit_b _ _ false HD.out).mono ?_; rintro e w' ⟨rfl, rfl⟩)
            go_ret
            exact ⟨ret_bool HF.out, rfl⟩
          · clear h1 h2
            go_wp2_with (go_at_call 21; refine (refDigit_b _ _ false HD.out).mono ?_; rintro e w' ⟨rfl, rfl⟩)
            go_ret
            exact ⟨ret_bool HF.out, rfl⟩
    · obtain rfl : k = s.size := by omega
      by_cases h0 : s.size = 0
      · have HF : Hid (false = r) := Lib.hid ((id_short s h0).symm.trans HR.out)
        have hn1 : ¬ (1 : Int) ≤ (s.size : Int) := by omega
        clear h0
        go_wp2_with fail
        go_ret
        exact ⟨ret_bool HF.out, rfl⟩
      · have hn1 : (1 : Int) ≤ (s.size : Int) := by omega
        by_cases hb : 500 < s.size
        · have HF : Hid (false = r) := Lib.hid ((id_long s hb).symm.trans HR.out)
          have hn2 : ¬ (s.size : Int) ≤ 500 := by omega
          clear hb h0
          go_wp2_with fail
          go_ret
          exact ⟨ret_bool HF.out, rfl⟩
        · have HF : Hid (true = r) := Lib.hid ((id_yes s (by omega) (by omega) hm.out).symm.trans HR.out)
          have hn2 : (s.size : Int) ≤ 500 := by omega
          clear hb h0
          go_wp2_with fail
          go_ret
          exact ⟨ret_bool HF.out, rfl⟩

set_option maxRecDepth 100000 in
set_option maxHeartbeats 1000000 in
theorem rcolon_c (s : ByteArray) (w : World) (hs : s.size ≤ 1000000000000000) (r : Bool) (hr : colL (bs s) = r) :
    Calls Tryd.prog 35 #[.string s] w fun e w' => e = .returned (.bool r) ∧ w = w' := by
  have HR := Lib.hid hr
  clear hr
  go_enter Tryd.func35, Tryd.ntmps35
  go_wp2_with fail
  go_loop [3] (fun i => ∃ k : Nat, k ≤ s.size ∧ i = .int .i64 k ∧ Hid (ColTo s k)) (fun i => s.size - (intOf i).toNat)
  case atStart => exact ⟨0, by omega, rfl, Lib.hid (colTo_start s)⟩
  case round =>
    obtain ⟨k, hk, rfl, hm⟩ := hrel
    by_cases hlt : k < s.size
    · by_cases hc : s[k].toNat = 58
      · have HF : Hid (true = r) := Lib.hid ((col_yes s k hlt hc).symm.trans HR.out)
        have e4 : ((s[k].toNat : Int) == 58) = true := by rw [beq_iff_eq]; omega
        clear hm
        go_wp2_with fail
        go_ret
        exact ⟨ret_bool HF.out, rfl⟩
      · have hup := Lib.hid (colTo_up s k hlt hm.out hc)
        have e4 : ((s[k].toNat : Int) == 58) = false := by rw [beq_eq_false_iff_ne]; omega
        clear hm
        go_wp2_with fail
        go_round
        case rel => exact ⟨k + 1, by omega, by go_num, hup⟩
        case measure => simp [intOf]; omega
    · obtain rfl : k = s.size := by omega
      have HF : Hid (false = r) := Lib.hid ((col_no s hm.out).symm.trans HR.out)
      go_wp2_with fail
      go_ret
      exact ⟨ret_bool HF.out, rfl⟩

set_option maxHeartbeats 1000000 in
theorem rPlain_c (s : ByteArray) (w : World) (hs : s.size ≤ 1000000000000000) (r : Bool) (hr : verL (bs s) = r) :
    Calls Tryd.prog 23 #[.string s] w fun e w' => e = .returned (.bool r) ∧ w = w' := by
  obtain ⟨a, ha⟩ : ∃ a, rightV (bs s) = a := ⟨_, rfl⟩
  obtain ⟨b, hb⟩ : ∃ b, colL (bs s) = b := ⟨_, rfl⟩
  have e : (a && !b) = r := by rw [← ha, ← hb, ← hr]; rfl
  have HA := Lib.hid ha
  have HB := Lib.hid hb
  have hm : s.size ≤ maxLen := by unfold maxLen; omega
  clear ha hb hr
  subst e
  cases a with
  | false =>
    go_enter Tryd.func23, Tryd.ntmps23
    go_wp2_with (go_at_call 34; refine (refRight_c _ _ hm false HA.out).mono ?_; rintro e w' ⟨rfl, rfl⟩)
    go_ret
    exact ⟨rfl, rfl⟩
  | true =>
    go_enter Tryd.func23, Tryd.ntmps23
    go_wp2_with (first | (go_at_call 34; refine (refRight_c _ _ hm true HA.out).mono ?_; rintro e w' ⟨rfl, rfl⟩) | (go_at_call 35; refine (rcolon_c _ _ hs b HB.out).mono ?_; rintro e w' ⟨rfl, rfl⟩))
    go_ret
    exact ⟨rfl, rfl⟩
end Go.Proofs.YthmlggglemnfgaaDoor
