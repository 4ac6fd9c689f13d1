/-
  Contracts of the walk's spaces and name (layer 2).
-/
import Derived.Test.YtkccockdnjjanaaGreatDoorTkWalk
import Derived.Test.YtkccockdnjjanaaGreatDoorTkOpenM
namespace Nwl
theorem skipL_drop {l : List UInt8} {k : Nat} (h1 : AllTo space8 l k) (h2 : ∀ hk : k < l.length, space8 l[k] = false) : skipL l = l.drop k := dropWhile_drop space8 l k h1 h2
/-- is there a Space? -/
theorem tx_ext_one (r : List UInt8) (k : Nat) (h : k < r.length) : (tx r).extract k (k + 1) = tx [r[k]] := by
  apply bs_inj
  rw [bs_extract, bs_tx, bs_tx, List.drop_eq_getElem_cons h, show k + 1 - k = 1 from by omega]
  rfl
/-- the byte at a place, by a name of its own -/
theorem at_ex (r : List UInt8) (k : Nat) (h : k < r.length) : ∃ c : UInt8, (tx r).extract k (k + 1) = tx [c] ∧ ∀ (p : UInt8 → Bool) (b : Bool), p c = b → ∀ h : k < r.length, p r[k] = b :=
  ⟨r[k], tx_ext_one r k h, fun _ _ e _ => e⟩
theorem name_step0 {r : List UInt8} (h : 0 < r.length) (hb : beginI (r[0]).toNat = true) : AllTo within8 r 1 ∧ (0 < 1 → ∃ h : 0 < r.length, beginI (r[0]).toNat = true) :=
  ⟨allTo_succ (allTo_zero _ _) h (begin_within _ hb), fun _ => ⟨h, hb⟩⟩
def NameTo (r : List UInt8) (k : Nat) : Prop := AllTo within8 r k ∧ (0 < k → ∃ h : 0 < r.length, beginI (r[0]).toNat = true)
theorem nameTo_zero (r : List UInt8) : NameTo r 0 := ⟨allTo_zero _ _, fun h => absurd h (by omega)⟩
theorem nameTo_one {r : List UInt8} (h : 0 < r.length) (hb : ∀ h : 0 < r.length, beginI (r[0]).toNat = true) : NameTo r 1 := name_step0 h (hb h)
theorem nameTo_succ {r : List UInt8} {k : Nat} (hn : NameTo r k) (h0 : ¬ k = 0) (h : k < r.length) (hw : ∀ h : k < r.length, within8 r[k] = true) : NameTo r (k + 1) :=
  ⟨allTo_succ hn.1 h (hw h), fun _ => hn.2 (by omega)⟩
theorem nameTo_end {r : List UInt8} {k : Nat} (hn : NameTo r k) (h0 : k = 0 → ∀ h : 0 < r.length, beginI (r[0]).toNat = false) (h1 : ¬ k = 0 → ∀ h : k < r.length, within8 r[k] = false) : nameP r = (r.take k, r.drop k) := by
  by_cases e : k = 0
  · subst e
    rw [nameP_no (h0 rfl)]
    simp
  · obtain ⟨h2, h3⟩ := hn.2 (by omega)
    exact nameP_yes h2 h3 hn.1 (h1 e)
end Nwl
namespace Go.Proofs.YtkccockdnjjanaaGreatDoor
open Nwl
open Go.RowKit
set_option linter.unusedVariables false

theorem goesOn_0' (t : ByteArray) (c : UInt8) (w : World) (ht : t = tx [c]) :
    Calls Tryz.prog 110 #[.int .i64 0, .string t] w fun e w' => e = .returned (.bool (beginI c.toNat)) ∧ w = w' := by subst ht; exact goesOn_0 c w
theorem goesOn_n' (n : Int) (t : ByteArray) (c : UInt8) (w : World) (h0 : 0 < n) (ht : t = tx [c]) :
    Calls Tryz.prog 110 #[.int .i64 n, .string t] w fun e w' => e = .returned (.bool (withinI c.toNat)) ∧ w = w' := by subst ht; exact goesOn_n n c w h0

theorem space8_iff (c : UInt8) (b : Bool) (h : spaceI c.toNat = b) : space8 c = b := h

set_option maxRecDepth 100000 in
set_option maxHeartbeats 1000000 in
theorem spaces_c (g : Nat) (r : List UInt8) (w : World) (hk : Wk g r w) (hr : r.length ≤ 100000) :
    Calls Tryz.prog 96 #[.pointer (some ⟨g, 0, none⟩)] w fun e w' => e = .returned (.bool (spB r)) ∧ Wk g (skipL r) w' ∧ w.grownBy w' (some g) := by
  have hc := hk.cell
  have hf := hk.frozen
  have HK := Lib.hid hk
  clear hk
  have HZ := Lib.hid (tx_size r)
  go_enter Tryz.func96, Tryz.ntmps96
  go_wp2
  refine wp_scope_again 0 (fun a' w' => w = w' ∧ ∃ (k : Nat) (u4 u5 u6 u7 u8 u9 u10 u11 u12 u13 u14 u15 u16 u17 u18 u19 u20 u21 u22 u23 u24 u25 : Value), a' = { tmps := #[.pointer (some ⟨g, 0, none⟩), undef, .bool false, .int .i64 k, u4, u5, u6, u7, u8, u9, u10, u11, u12, u13, u14, u15, u16, u17, u18, u19, u20, u21, u22, u23, u24, u25], defers := [] } ∧ k ≤ r.length ∧ Hid (AllTo space8 r k)) (fun a' _ => r.length - (intOf (a'.tmps.getD 3 undef)).toNat) rfl ?_ ?_
  · rintro a' w' ⟨rfl, k, u4, u5, u6, u7, u8, u9, u10, u11, u12, u13, u14, u15, u16, u17, u18, u19, u20, u21, u22, u23, u24, u25, rfl, hk, hall⟩
    by_cases hlt : k < r.length
    · have hlt' : k < (tx r).size := by rw [tx_size]; exact hlt
      cases hsp : spaceI ((tx r)[k]).toNat with
      | true =>
        have hup := Lib.hid (allTo_succ hall.out hlt hsp)
        go_wp2_with (go_at_call 91; refine (Space_c _ _).mono ?_; rintro e w' ⟨rfl, rfl⟩)
        go_step3
        refine ⟨rfl, ⟨rfl, k + 1, _, _, _, _, _, _, _, _, _, _, _, _, _, _, _, _, _, _, _, _, _, _, rfl, by omega, hup⟩, ?_⟩
        simp [intOf]
        omega
      | false =>
        have hsk := skipL_drop hall.out (fun _ => hsp)
        have hres : Hid (spB r = decide (0 < k) ∧ skipL r = r.drop k) := Lib.hid ⟨by rw [spB, hsk, List.length_drop]; congr 1; simp; omega, hsk⟩
        clear hsk
        by_cases h0 : k = 0
        · subst h0
          have ht : (tx (r.take 0)).toList = [] := toList_nil_of _ (by rw [tx_size]; simp)
          have ht2 : (tx []).toList = [] := toList_nil_of _ (by rw [tx_size]; simp)
          go_wp2_with (first
            | (go_at_call 91; refine (Space_c _ _).mono ?_; rintro e w' ⟨rfl, rfl⟩)
            | (go_at_call 100; refine (take_c g 0 r _ HK.out hr (by omega)).mono ?_; rintro e w1 ⟨rfl, hk1, hg1⟩))
          simp only [Exit.jump]
          go_ret
          exact ⟨ret_bool (by rw [hres.out.1]; simp), by rw [hres.out.2]; exact hk1, hg1⟩
        · have hp : 0 < (tx (r.take k)).size := by rw [tx_size, List.length_take]; omega
          have ht : ¬ (tx (r.take k)).toList = [] := toList_ne_of _ hp
          have ht2 : (tx (r.take k)).toList.isEmpty = false := by simpa using ht
          go_wp2_with (first
            | (go_at_call 91; refine (Space_c _ _).mono ?_; rintro e w' ⟨rfl, rfl⟩)
            | (go_at_call 100; refine (take_c g k r _ HK.out hr hk).mono ?_; rintro e w1 ⟨rfl, hk1, hg1⟩))
          simp only [Exit.jump]
          go_ret
          exact ⟨ret_bool (by rw [hres.out.1]; simp; omega), by rw [hres.out.2]; exact hk1, hg1⟩
    · have hlt' : ¬ k < (tx r).size := by rw [tx_size]; exact hlt
      have hsk := skipL_drop hall.out (fun h => absurd h hlt)
      have hres : Hid (spB r = decide (0 < k) ∧ skipL r = r.drop k) := Lib.hid ⟨by rw [spB, hsk, List.length_drop]; congr 1; simp; omega, hsk⟩
      clear hsk
      by_cases h0 : k = 0
      · subst h0
        have ht : (tx (r.take 0)).toList = [] := toList_nil_of _ (by rw [tx_size]; simp)
        have ht2 : (tx []).toList = [] := toList_nil_of _ (by rw [tx_size]; simp)
        go_wp2_with (first
          | (go_at_call 91; refine (Space_c _ _).mono ?_; rintro e w' ⟨rfl, rfl⟩)
          | (go_at_call 100; refine (take_c g 0 r _ HK.out hr (by omega)).mono ?_; rintro e w1 ⟨rfl, hk1, hg1⟩))
        simp only [Exit.jump]
        go_ret
        exact ⟨ret_bool (by rw [hres.out.1]; simp), by rw [hres.out.2]; exact hk1, hg1⟩
      · have hp : 0 < (tx (r.take k)).size := by rw [tx_size, List.length_take]; omega
        have ht : ¬ (tx (r.take k)).toList = [] := toList_ne_of _ hp
        have ht2 : (tx (r.take k)).toList.isEmpty = false := by simpa using ht
        go_wp2_with (first
          | (go_at_call 91; refine (Space_c _ _).mono ?_; rintro e w' ⟨rfl, rfl⟩)
          | (go_at_call 100; refine (take_c g k r _ HK.out hr hk).mono ?_; rintro e w1 ⟨rfl, hk1, hg1⟩))
        simp only [Exit.jump]
        go_ret
        exact ⟨ret_bool (by rw [hres.out.1]; simp; omega), by rw [hres.out.2]; exact hk1, hg1⟩
  · intro hpass
    go_wp2
    go_step3
    rename_i hK
    exact hK _ _ (hpass.out _ _ ⟨rfl, 0, _, _, _, _, _, _, _, _, _, _, _, _, _, _, _, _, _, _, _, _, _, _, rfl, by omega, allTo_zero _ _⟩)

set_option maxRecDepth 100000 in
set_option maxHeartbeats 1000000 in
theorem name_c (g : Nat) (r : List UInt8) (w : World) (hk : Wk g r w) (hr : r.length ≤ 100000) :
    Calls Tryz.prog 95 #[.pointer (some ⟨g, 0, none⟩)] w fun e w' => e = .returned (.string (tx (nameP r).1)) ∧ Wk g (nameP r).2 w' ∧ w.grownBy w' (some g) := by
  have hc := hk.cell
  have hf := hk.frozen
  have HK := Lib.hid hk
  clear hk
  go_enter Tryz.func95, Tryz.ntmps95
  go_wp2
  refine wp_scope_again 0 (fun a' w' => w = w' ∧ ∃ (k : Nat) (u4 u5 u6 u7 u8 u9 u10 u11 u12 u13 u14 u15 u16 u17 u18 u19 u20 u21 u22 u23 u24 u25 u26 u27 : Value), a' = { tmps := #[.pointer (some ⟨g, 0, none⟩), undef, .string ⟨#[]⟩, .int .i64 k, u4, u5, u6, u7, u8, u9, u10, u11, u12, u13, u14, u15, u16, u17, u18, u19, u20, u21, u22, u23, u24, u25, u26, u27], defers := [] } ∧ k ≤ r.length ∧ Hid (NameTo r k)) (fun a' _ => r.length - (intOf (a'.tmps.getD 3 undef)).toNat) rfl ?_ ?_
  · rintro a' w' ⟨rfl, k, u4, u5, u6, u7, u8, u9, u10, u11, u12, u13, u14, u15, u16, u17, u18, u19, u20, u21, u22, u23, u24, u25, u26, u27, rfl, hk, hall⟩
    by_cases hlt : k < r.length
    · have hlt' : k < (tx r).size := by rw [tx_size]; exact hlt
      obtain ⟨c, h1, hat⟩ := at_ex r k hlt
      have H1 := Lib.hid h1
      have HA := Lib.hid hat
      clear h1 hat
      by_cases h0 : k = 0
      · subst h0
        cases hb : beginI c.toNat with
        | true =>
          have hup := Lib.hid (nameTo_one hlt (HA.out (fun c => beginI c.toNat) true hb))
          clear hall
          go_wp2_with (go_at_call 110; refine (goesOn_0' _ _ _ H1.out).mono ?_; rintro e w' ⟨rfl, rfl⟩)
          go_step3
          refine ⟨rfl, ⟨rfl, 1, _, _, _, _, _, _, _, _, _, _, _, _, _, _, _, _, _, _, _, _, _, _, _, _, rfl, by omega, hup⟩, ?_⟩
          simp [intOf]
          omega
        | false =>
          have hres : Hid (nameP r = (r.take 0, r.drop 0)) := Lib.hid (nameTo_end hall.out (fun _ => HA.out (fun c => beginI c.toNat) false hb) (fun h => absurd rfl h))
          clear hall
          go_wp2_with (first
            | (go_at_call 110; refine (goesOn_0' _ _ _ H1.out).mono ?_; rintro e w' ⟨rfl, rfl⟩)
            | (go_at_call 100; refine (take_c g 0 r _ HK.out hr (by omega)).mono ?_; rintro e w1 ⟨rfl, hk1, hg1⟩))
          simp only [Exit.jump]
          go_ret
          exact ⟨ret_str (by rw [hres.out]; simp), by rw [hres.out]; exact hk1, hg1⟩
      · cases hw : withinI c.toNat with
        | true =>
          have hup := Lib.hid (nameTo_succ hall.out h0 hlt (HA.out within8 true hw))
          clear hall
          go_wp2_with (go_at_call 110; refine (goesOn_n' _ _ _ _ (by omega) H1.out).mono ?_; rintro e w' ⟨rfl, rfl⟩)
          go_step3
          refine ⟨rfl, ⟨rfl, k + 1, _, _, _, _, _, _, _, _, _, _, _, _, _, _, _, _, _, _, _, _, _, _, _, _, rfl, by omega, hup⟩, ?_⟩
          simp [intOf]
          omega
        | false =>
          have hres : Hid (nameP r = (r.take k, r.drop k)) := Lib.hid (nameTo_end hall.out (fun e => absurd e h0) (fun _ => HA.out within8 false hw))
          clear hall
          go_wp2_with (first
            | (go_at_call 110; refine (goesOn_n' _ _ _ _ (by omega) H1.out).mono ?_; rintro e w' ⟨rfl, rfl⟩)
            | (go_at_call 100; refine (take_c g k r _ HK.out hr hk).mono ?_; rintro e w1 ⟨rfl, hk1, hg1⟩))
          simp only [Exit.jump]
          go_ret
          exact ⟨ret_str (by rw [hres.out]), by rw [hres.out]; exact hk1, hg1⟩
    · have hlt' : ¬ k < (tx r).size := by rw [tx_size]; exact hlt
      have hres : Hid (nameP r = (r.take k, r.drop k)) := Lib.hid (nameTo_end hall.out (fun e h => absurd h (by omega)) (fun _ h => absurd h hlt))
      clear hall
      go_wp2_with (go_at_call 100; refine (take_c g k r _ HK.out hr hk).mono ?_; rintro e w1 ⟨rfl, hk1, hg1⟩)
      simp only [Exit.jump]
      go_ret
      exact ⟨ret_str (by rw [hres.out]), by rw [hres.out]; exact hk1, hg1⟩
  · intro hpass
    go_wp2
    go_step3
    rename_i hK
    exact hK _ _ (hpass.out _ _ ⟨rfl, 0, _, _, _, _, _, _, _, _, _, _, _, _, _, _, _, _, _, _, _, _, _, _, _, _, rfl, by omega, nameTo_zero _⟩)

end Go.Proofs.YtkccockdnjjanaaGreatDoor
