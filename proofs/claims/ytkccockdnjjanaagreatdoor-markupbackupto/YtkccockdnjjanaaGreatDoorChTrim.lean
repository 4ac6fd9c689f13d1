/-
  Contracts of Trim and its parts (chars, and the document's own answer).
-/
import Derived.Test.YtkccockdnjjanaaGreatDoorBa
import Derived.WalkMore
import Derived.ScopeJumps
namespace Go.Proofs.YtkccockdnjjanaaGreatDoor
open Nwl
open Go.RowKit (Hid intOf)

set_option maxRecDepth 100000 in
set_option maxHeartbeats 400000 in
theorem withoutBeginning_c (s : ByteArray) (w : World) (hs : s.size ≤ maxLen) :
    Calls Tryz.prog 90 #[.string s] w fun e w' => e = .returned (.string (dropB s)) ∧ w = w' := by
  unfold maxLen at hs
  go_enter Tryz.func90, Tryz.ntmps90
  go_wp2
  refine wp_scope_jumps 0 (fun a' w' => w = w' ∧ ∃ (k : Nat) (u4 u5 u6 u7 u8 u9 u10 u11 u12 u13 u14 u15 u16 u17 u18 : Value), a' = { tmps := #[.string s, undef, .string ⟨#[]⟩, .int .i64 k, u4, u5, u6, u7, u8, u9, u10, u11, u12, u13, u14, u15, u16, u17, u18], defers := [] } ∧ k ≤ s.size ∧ SpaceTo s 0 k) (fun a' _ => s.size - (intOf (a'.tmps.getD 3 undef)).toNat) rfl ?_ ?_
  · go_wp2
    go_step3
    by_cases hlt : 0 < s.size
    · cases hc : spaceI s[0].toNat with
      | true =>
        have hup := spaceTo_up s 0 0 hlt (spaceTo_start s 0) hc
        go_wp2_with (go_at_call 91; refine (Space_c _ _).mono ?_; rintro e w' ⟨rfl, rfl⟩)
        go_step3
        exact ⟨rfl, rfl, 1, _, _, _, _, _, _, _, _, _, _, _, _, _, _, _, rfl, by omega, hup⟩
      | false =>
        have hd : Hid (s = dropB s) := Lib.hid (dropB_end s fun _ => hc).symm
        go_wp2_with (go_at_call 91; refine (Space_c _ _).mono ?_; rintro e w' ⟨rfl, rfl⟩)
        simp only [Exit.jump]
        go_ret
        exact ⟨ret_str hd.out, rfl⟩
    · have hd : Hid (s = dropB s) := Lib.hid (dropB_end s fun hk => absurd hk hlt).symm
      go_wp2_with (go_at_call 91; refine (Space_c _ _).mono ?_; rintro e w' ⟨rfl, rfl⟩)
      simp only [Exit.jump]
      go_ret
      exact ⟨ret_str hd.out, rfl⟩
  · rintro a' w' ⟨rfl, k, u4, u5, u6, u7, u8, u9, u10, u11, u12, u13, u14, u15, u16, u17, u18, rfl, hk, hsp⟩
    by_cases hlt : k < s.size
    · cases hc : spaceI s[k].toNat with
      | true =>
        have hup := spaceTo_up s 0 k hlt hsp hc
        go_wp2_with (go_at_call 91; refine (Space_c _ _).mono ?_; rintro e w' ⟨rfl, rfl⟩)
        go_step3
        refine ⟨rfl, ⟨rfl, k + 1, _, _, _, _, _, _, _, _, _, _, _, _, _, _, _, rfl, by omega, hup⟩, ?_⟩
        simp [intOf]
        omega
      | false =>
        have hd : Hid (s.extract k s.size = dropB s) := Lib.hid (dropB_of s k hsp fun _ => hc)
        go_wp2_with (go_at_call 91; refine (Space_c _ _).mono ?_; rintro e w' ⟨rfl, rfl⟩)
        simp only [Exit.jump]
        go_ret
        exact ⟨ret_str hd.out, rfl⟩
    · have hd : Hid (s.extract k s.size = dropB s) := Lib.hid (dropB_of s k hsp fun hk => absurd hk hlt)
      go_wp2_with (go_at_call 91; refine (Space_c _ _).mono ?_; rintro e w' ⟨rfl, rfl⟩)
      simp only [Exit.jump]
      go_ret
      exact ⟨ret_str hd.out, rfl⟩

set_option maxRecDepth 100000 in
set_option maxHeartbeats 400000 in
theorem withoutEnd_c (s : ByteArray) (w : World) (hs : s.size ≤ maxLen) :
    Calls Tryz.prog 89 #[.string s] w fun e w' => e = .returned (.string (chopB s)) ∧ w = w' := by
  unfold maxLen at hs
  go_enter Tryz.func89, Tryz.ntmps89
  go_wp2
  refine wp_scope_jumps 0 (fun a' w' => w = w' ∧ ∃ (n : Int) (k : Nat) (u4 u5 u6 u7 u8 u9 u10 u11 u12 u13 u14 u15 u16 u17 u18 u19 : Value), a' = { tmps := #[.string s, undef, .string ⟨#[]⟩, .int .i64 n, u4, u5, u6, u7, u8, u9, u10, u11, u12, u13, u14, u15, u16, u17, u18, u19], defers := [] } ∧ n = k ∧ k ≤ s.size ∧ SpaceTo s k s.size) (fun a' _ => (intOf (a'.tmps.getD 3 undef)).toNat) rfl ?_ ?_
  · by_cases hlt : 0 < s.size
    · have hlt' : s.size - 1 < s.size := by omega
      cases hc : spaceI (s[s.size - 1]).toNat with
      | true =>
        have hup := spaceTo_down s (s.size - 1) s.size hlt' (by have e : s.size - 1 + 1 = s.size := by omega
                                                                rw [e]; exact spaceTo_start s _) hc
        go_wp2
        go_step3
        go_wp2_with (go_at_call 91; refine (Space_c _ _).mono ?_; rintro e w' ⟨rfl, rfl⟩)
        go_step3
        exact ⟨rfl, rfl, _, s.size - 1, _, _, _, _, _, _, _, _, _, _, _, _, _, _, _, _, rfl, by omega, by omega, hup⟩
      | false =>
        have hd : Hid (s = chopB s) := Lib.hid (chopB_end s fun _ _ => hc).symm
        go_wp2
        go_step3
        go_wp2_with (go_at_call 91; refine (Space_c _ _).mono ?_; rintro e w' ⟨rfl, rfl⟩)
        simp only [Exit.jump]
        go_ret
        exact ⟨ret_str hd.out, rfl⟩
    · have hd : Hid (s = chopB s) := Lib.hid (chopB_end s fun _ hk => absurd hk hlt).symm
      go_wp2
      go_step3
      go_wp2_with (go_at_call 91; refine (Space_c _ _).mono ?_; rintro e w' ⟨rfl, rfl⟩)
      simp only [Exit.jump]
      go_ret
      exact ⟨ret_str hd.out, rfl⟩
  · rintro a' w' ⟨rfl, _, k, u4, u5, u6, u7, u8, u9, u10, u11, u12, u13, u14, u15, u16, u17, u18, u19, rfl, rfl, hk, hsp⟩
    by_cases hlt : 0 < k
    · have hlt' : k - 1 < s.size := by omega
      cases hc : spaceI (s[k - 1]).toNat with
      | true =>
        have hup := spaceTo_down s (k - 1) s.size hlt' (by have e : k - 1 + 1 = k := by omega
                                                           rw [e]; exact hsp) hc
        go_wp2_with (go_at_call 91; refine (Space_c _ _).mono ?_; rintro e w' ⟨rfl, rfl⟩)
        go_step3
        refine ⟨rfl, ⟨rfl, _, k - 1, _, _, _, _, _, _, _, _, _, _, _, _, _, _, _, _, rfl, by omega, by omega, hup⟩, ?_⟩
        simp [intOf]
        omega
      | false =>
        have hd : Hid (s.extract 0 k = chopB s) := Lib.hid (chopB_of s k hk hsp fun _ _ => hc)
        go_wp2_with (go_at_call 91; refine (Space_c _ _).mono ?_; rintro e w' ⟨rfl, rfl⟩)
        simp only [Exit.jump]
        go_ret
        exact ⟨ret_str hd.out, rfl⟩
    · have hd : Hid (s.extract 0 k = chopB s) := Lib.hid (chopB_of s k hk hsp fun _ h => absurd h hlt)
      go_wp2_with (go_at_call 91; refine (Space_c _ _).mono ?_; rintro e w' ⟨rfl, rfl⟩)
      simp only [Exit.jump]
      go_ret
      exact ⟨ret_str hd.out, rfl⟩

theorem dropB_size (s : ByteArray) : (dropB s).size ≤ s.size := by
  rw [← bs_length (dropB s), ← bs_length s, dropB, bs_tx]; exact (List.dropWhile_sublist _).length_le
theorem trimB_size (s : ByteArray) : (trimB s).size ≤ s.size := by
  rw [← bs_length (trimB s), ← bs_length s, trimB, bs_tx, trimL, List.length_reverse]
  refine Nat.le_trans ((List.dropWhile_sublist _).length_le) ?_
  rw [List.length_reverse]
  exact (List.dropWhile_sublist _).length_le

set_option maxHeartbeats 400000 in
theorem Trim_c (s : ByteArray) (w : World) (hs : s.size ≤ maxLen) :
    Calls Tryz.prog 62 #[.string s] w fun e w' => e = .returned (.string (trimB s)) ∧ w = w' := by
  have hd := dropB_size s
  have h2 : (dropB s).size ≤ maxLen := by omega
  have hcd : Hid (chopB (dropB s) = trimB s) := Lib.hid (chop_drop s)
  go_enter Tryz.func62, Tryz.ntmps62
  go_wp2_with (first | (go_at_call 90; refine (withoutBeginning_c _ _ hs).mono ?_; rintro e w' ⟨rfl, rfl⟩) | (go_at_call 89; refine (withoutEnd_c _ _ h2).mono ?_; rintro e w' ⟨rfl, rfl⟩))
  go_ret
  exact ⟨ret_str hcd.out, rfl⟩

set_option maxHeartbeats 800000 in
theorem refTrim_c (s : ByteArray) (w : World) (hs : s.size ≤ maxLen) :
    Calls Tryz.prog 42 #[.string s] w fun e w' => e = .returned (.string (trimB s)) ∧ w = w' := by
  unfold maxLen at hs
  go_enter Tryz.func42, Tryz.ntmps42
  go_wp2
  go_loop [0] (fun v => ∃ t : ByteArray, t.size ≤ s.size ∧ v = .string t ∧ Hid (dropB t = dropB s)) (fun v => match v with | .string t => t.size | _ => 0)
  case atStart => exact ⟨s, by omega, rfl, rfl⟩
  case round =>
    obtain ⟨t, ht, rfl, hd⟩ := hrel
    by_cases hgo : ∃ h : 0 < t.size, spaceI t[0].toNat = true
    · obtain ⟨hlt, hc⟩ := hgo
      have hst : Hid (dropB (t.extract 1 t.size) = dropB s) := Lib.hid ((dropB_step t hlt hc).trans hd.out)
      have hsz : Hid ((t.extract 1 t.size).size = t.size - 1) := Lib.hid (extract_size t 1 t.size (Nat.le_refl _))
      go_wp2_with (go_at_call 64; refine (refSpace_c _ _).mono ?_; rintro e w' ⟨rfl, rfl⟩)
      go_round
      case rel => exact ⟨_, by rw [hsz.out]; omega, rfl, hst⟩
      case measure => simp only []; rw [hsz.out]; omega
    · have hfin : Hid (t = dropB s) := Lib.hid ((dropB_end t fun h => by
        cases e : spaceI t[0].toNat with
        | false => rfl
        | true => exact absurd ⟨h, e⟩ hgo).symm.trans hd.out)
      have hcd : Hid (chopB t = trimB s) := Lib.hid (by rw [hfin.out]; exact chop_drop s)
      clear hd
      have hmeet : (0 < t.size ∧ ∃ h : 0 < t.size, spaceI t[0].toNat = false) ∨ ¬ 0 < t.size := by
        by_cases h : 0 < t.size
        · refine .inl ⟨h, h, ?_⟩
          cases e : spaceI t[0].toNat with
          | false => rfl
          | true => exact absurd ⟨h, e⟩ hgo
        · exact .inr h
      clear hgo
      rcases hmeet with ⟨h0, _, hc0⟩ | h0
      all_goals
        go_wp2_with (go_at_call 64; refine (refSpace_c _ _).mono ?_; rintro e w' ⟨rfl, rfl⟩)
        go_loop [0] (fun v => ∃ u : ByteArray, u.size ≤ s.size ∧ v = .string u ∧ Hid (chopB u = trimB s)) (fun v => match v with | .string t => t.size | _ => 0)
        case atStart => exact ⟨t, by omega, rfl, hcd⟩
        case round =>
          clear hfin hcd
          obtain ⟨u, hu, rfl, hd⟩ := hrel
          by_cases hgo : ∃ h : u.size - 1 < u.size, spaceI (u[u.size - 1]).toNat = true
          · obtain ⟨hlt, hc⟩ := hgo
            have hpos : 0 < u.size := by omega
            have hst : Hid (chopB (u.extract 0 (u.size - 1)) = trimB s) := Lib.hid ((chopB_step u hlt hc).trans hd.out)
            have hsz : Hid ((u.extract 0 (u.size - 1)).size = u.size - 1) := Lib.hid (by rw [extract_size u 0 (u.size - 1) (by omega)]; omega)
            go_wp2_with (go_at_call 64; refine (refSpace_c _ _).mono ?_; rintro e w' ⟨rfl, rfl⟩)
            go_round
            case rel => exact ⟨_, by rw [hsz.out]; omega, rfl, hst⟩
            case measure => simp only []; rw [hsz.out]; omega
          · have hfin : Hid (u = trimB s) := Lib.hid ((chopB_end u fun h _ => by
              cases e : spaceI (u[u.size - 1]).toNat with
              | false => rfl
              | true => exact absurd ⟨h, e⟩ hgo).symm.trans hd.out)
            clear hd
            by_cases h1 : 0 < u.size
            · have hlt : u.size - 1 < u.size := by omega
              have hc : spaceI (u[u.size - 1]).toNat = false := by
                cases e : spaceI (u[u.size - 1]).toNat with
                | false => rfl
                | true => exact absurd ⟨hlt, e⟩ hgo
              clear hgo
              go_wp2_with (go_at_call 64; refine (refSpace_c _ _).mono ?_; rintro e w' ⟨rfl, rfl⟩)
              go_ret
              exact ⟨ret_str hfin.out, rfl⟩
            · clear hgo
              go_wp2_with (go_at_call 64; refine (refSpace_c _ _).mono ?_; rintro e w' ⟨rfl, rfl⟩)
              go_ret
              exact ⟨ret_str hfin.out, rfl⟩
end Go.Proofs.YtkccockdnjjanaaGreatDoor
