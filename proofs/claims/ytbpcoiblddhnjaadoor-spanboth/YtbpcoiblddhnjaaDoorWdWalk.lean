/-
  Contracts of words.Right and words.partEnd: loops by goto that only read.
-/
import Derived.Test.YtbpcoiblddhnjaaDoorWdRead
namespace Go.Proofs.YtbpcoiblddhnjaaDoor
open Nwl
open Go.RowKit Go.Maps
set_option linter.unusedVariables false

set_option maxRecDepth 100000 in
set_option maxHeartbeats 800000 in
theorem Right_c (s : ByteArray) (w : World) (hs : s.size ≤ maxLen) :
    Calls Tryd.prog 48 #[.string s] w fun e w' => e = .returned (.bool (rightV (bs s))) ∧ w = w' := by
  unfold maxLen at hs
  by_cases h0 : s.size = 0
  · have he : s.toList = [] := toList_nil_of s h0
    have HR := Lib.hid (right_short s h0)
    clear h0
    go_enter Tryd.func48, Tryd.ntmps48
    go_wp2_with fail
    go_step3
    go_wp2_with fail
    rw [Exit.noGoto_ret]
    go_ret
    exact ⟨ret_bool HR.out.symm, rfl⟩
  · have hne : (s.toList == []) = false := by rw [toList_bs]; have := bs_length s; cases h : bs s with
      | nil => rw [h] at this; simp at this; omega
      | cons => rfl
    by_cases hb : 100 < s.size
    · have HR := Lib.hid (right_long s hb)
      go_enter Tryd.func48, Tryd.ntmps48
      go_wp2_with fail
      go_step3
      go_wp2_with fail
      rw [Exit.noGoto_ret]
      go_ret
      exact ⟨ret_bool HR.out.symm, rfl⟩
    · go_enter Tryd.func48, Tryd.ntmps48
      go_wp2_with fail
      refine wp_scope_again 0 (fun a' w' => w = w' ∧ ∃ (k : Nat) (u4 u5 u6 u7 u8 u9 u10 u11 u12 u13 u14 u15 u16 u17 u18 u19 u20 u21 : Value), a' = { tmps := #[.string s, undef, .bool false, .int .i64 k, u4, u5, u6, u7, u8, u9, u10, u11, u12, u13, u14, u15, u16, u17, u18, u19, u20, u21], defers := [] } ∧ k ≤ s.size ∧ Hid (MayTo s k)) (fun a' _ => s.size - (intOf (a'.tmps.getD 3 undef)).toNat) rfl ?_ ?_
      · rintro a' w' ⟨rfl, k, u4, u5, u6, u7, u8, u9, u10, u11, u12, u13, u14, u15, u16, u17, u18, u19, u20, u21, rfl, hk, hm⟩
        by_cases hlt : k < s.size
        · cases hc : mayV s[k].toNat with
          | true =>
            have hup := Lib.hid (mayTo_up s k hlt hm.out hc)
            go_wp2_with (go_at_call 62; refine (mayStand_c _ _).mono ?_; rintro e w' ⟨rfl, rfl⟩)
            go_step3
            refine ⟨rfl, ⟨rfl, k + 1, _, _, _, _, _, _, _, _, _, _, _, _, _, _, _, _, _, _, rfl, by omega, hup⟩, ?_⟩
            simp [intOf]
            omega
          | false =>
            have HR := Lib.hid (right_no s k hlt hc)
            go_wp2_with (go_at_call 62; refine (mayStand_c _ _).mono ?_; rintro e w' ⟨rfl, rfl⟩)
            simp only [Exit.jump]
            go_ret
            exact ⟨ret_bool HR.out.symm, rfl⟩
        · obtain rfl : k = s.size := by omega
          have HR := Lib.hid (right_yes s (by omega) (by omega) hm.out)
          go_wp2_with fail
          simp only [Exit.jump]
          go_ret
          exact ⟨ret_bool HR.out.symm, rfl⟩
      · intro hpass
        go_wp2_with fail
        go_step3
        rename_i hK
        exact hK _ _ (hpass.out _ _ ⟨rfl, 0, _, _, _, _, _, _, _, _, _, _, _, _, _, _, _, _, _, _, rfl, by omega, mayTo_start s⟩)

set_option maxRecDepth 100000 in
set_option maxHeartbeats 2000000 in
theorem partEnd_c (s : ByteArray) (a : Nat) (w : World) (hs : s.size ≤ maxLen) (ha : a ≤ s.size) (r : Nat) (hr : a + partN ((bs s).drop a) = r) :
    Calls Tryd.prog 80 #[.string s, .int .i64 a] w fun e w' => e = .returned (.int .i64 r) ∧ Below w.heap.size w w' := by
  unfold maxLen at hs
  have HR := Lib.hid hr
  clear hr
  go_enter Tryd.func80, Tryd.ntmps80
  go_wp2_with fail
  refine wp_scope_again 0 (fun a' w' => Hid (Below w.heap.size w w') ∧ ∃ (k : Nat) (u6 u7 u8 u9 u10 u11 u12 u13 u14 u15 u16 u17 u18 u19 u20 u21 u22 u23 u24 u25 u26 u27 u28 u29 u30 : Value), a' = { tmps := #[.string s, .int .i64 a, undef, undef, .int .i64 0, .int .i64 k, u6, u7, u8, u9, u10, u11, u12, u13, u14, u15, u16, u17, u18, u19, u20, u21, u22, u23, u24, u25, u26, u27, u28, u29, u30], defers := [] } ∧ a ≤ k ∧ k ≤ s.size ∧ Hid (PartTo s a k)) (fun a' _ => s.size - (intOf (a'.tmps.getD 5 undef)).toNat) rfl ?_ ?_
  · rintro a' w' ⟨hbel, k, u6, u7, u8, u9, u10, u11, u12, u13, u14, u15, u16, u17, u18, u19, u20, u21, u22, u23, u24, u25, u26, u27, u28, u29, u30, rfl, hak, hks, hp⟩
    have hfin : Hid ((∀ (hk : k < s.size), partQ (s[a]'(by omega)) s[k] = false) → (k : Int) = r) := Lib.hid fun h => by
      have := partN_of s a k hak hks hp.out h
      have := HR.out
      omega
    by_cases hlt : k < s.size
    · have hal : a < s.size := by omega
      have hupq : Hid (partQ s[a] s[k] = true → PartTo s a (k + 1)) := Lib.hid (partTo_up s a k hlt hal hp.out)
      have hq : partQ s[a] s[k] = (!sepI s[k].toNat && (digitI s[k].toNat == digitI s[a].toNat)) := rfl
      have hfin2 : Hid (partQ s[a] s[k] = false → (k : Int) = r) := Lib.hid fun h => hfin.out fun _ => h
      have hkn : ((k : Int) == (s.size : Int)) = false := by rw [beq_eq_false_iff_ne]; omega
      clear hfin hp
      cases hc : sepI s[k].toNat with
      | true =>
        have hd := Lib.hid (hfin2.out (by rw [hq, hc]; rfl))
        clear hq hupq hfin2
        go_wp2_with fail
        go_quiet (first
          | (go_at_call 84; exact Calls.quiet_of_same ((separates_c _ _).mono fun _ _ h => ⟨by rw [h.1, hc], h.2.symm⟩)))
        go_wp2_with fail
        simp only [Exit.jump]
        go_ret
        exact ⟨ret_i64 hd.out, below_drewN hbel.out _⟩
      | false =>
        obtain ⟨d1, h1⟩ : ∃ d, digitI s[k].toNat = d := ⟨_, rfl⟩
        obtain ⟨d2, h2⟩ : ∃ d, digitI s[a].toNat = d := ⟨_, rfl⟩
        rw [hc, h1, h2] at hq
        by_cases hdd : d1 = d2
        · have hup := Lib.hid (hupq.out (by rw [hq, hdd]; simp))
          clear hq hupq hfin2
          go_wp2_with fail
          go_quiet (first
            | (go_at_call 84; exact Calls.quiet_of_same ((separates_c _ _).mono fun _ _ h => ⟨by rw [h.1, hc], h.2.symm⟩))
            | (go_at_call 94; exact Calls.quiet_of_same ((Digit_c _ _).mono fun _ _ h => ⟨by rw [h.1, h1], h.2.symm⟩))
            | (go_at_call 94; exact Calls.quiet_of_same ((Digit_c _ _).mono fun _ _ h => ⟨by rw [h.1, h2], h.2.symm⟩)))
          go_wp2_with fail
          go_step3
          refine ⟨rfl, ⟨below_drewN hbel.out _, k + 1, _, _, _, _, _, _, _, _, _, _, _, _, _, _, _, _, _, _, _, _, _, _, _, _, _, rfl, by omega, by omega, hup⟩, ?_⟩
          simp [intOf]
          omega
        · have hdb : (d1 == d2) = false := by rw [beq_eq_false_iff_ne]; exact hdd
          have hd := Lib.hid (hfin2.out (by rw [hq, hdb]; rfl))
          clear hq hupq hfin2
          go_wp2_with fail
          go_quiet (first
            | (go_at_call 84; exact Calls.quiet_of_same ((separates_c _ _).mono fun _ _ h => ⟨by rw [h.1, hc], h.2.symm⟩))
            | (go_at_call 94; exact Calls.quiet_of_same ((Digit_c _ _).mono fun _ _ h => ⟨by rw [h.1, h1], h.2.symm⟩))
            | (go_at_call 94; exact Calls.quiet_of_same ((Digit_c _ _).mono fun _ _ h => ⟨by rw [h.1, h2], h.2.symm⟩)))
          go_wp2_with fail
          simp only [Exit.jump]
          go_ret
          exact ⟨ret_i64 hd.out, below_drewN hbel.out _⟩
    · obtain rfl : k = s.size := by omega
      have hd := Lib.hid (hfin.out fun h => absurd h hlt)
      clear hfin hp
      go_wp2_with fail
      go_quiet (fail)
      go_wp2_with fail
      simp only [Exit.jump]
      go_ret
      exact ⟨ret_i64 hd.out, below_drewN hbel.out _⟩
  · intro hpass
    go_wp2_with fail
    go_step3
    rename_i hK
    exact hK _ _ (hpass.out _ _ ⟨Below.refl _ _, a, _, _, _, _, _, _, _, _, _, _, _, _, _, _, _, _, _, _, _, _, _, _, _, _, _, rfl, by omega, by omega, partTo_start s a⟩)
end Go.Proofs.YtbpcoiblddhnjaaDoor
