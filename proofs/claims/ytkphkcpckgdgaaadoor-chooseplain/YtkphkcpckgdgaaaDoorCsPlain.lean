/-
  The walk of ChoosePlain.
-/
import Derived.Test.YtkphkcpckgdgaaaDoorCsAwake
import Derived.Test.YtkphkcpckgdgaaaDoorWa
namespace Nwl
theorem pick_k {l : List (List UInt8)} {w : List UInt8} (h : isR w = true) (x : List UInt8) (k : Int) (hp : pickV l w = (x, k)) : ¬ k = 11 := by
  unfold pickV at hp
  rw [if_pos h] at hp
  split at hp
  · injection hp with _ h2; omega
  · split at hp
    · injection hp with _ h2; omega
    · injection hp with _ h2; omega
theorem isR_of {s : ByteArray} (h0 : 0 < s.size) : isR (bs s) = (((s[0].toNat : Int) == 91) || ((s[0].toNat : Int) == 40)) := by
  rw [bs_hd h0]
  unfold isR
  dsimp only
  have key : ∀ k : UInt8, (s[0] == k) = ((s[0].toNat : Int) == (k.toNat : Int)) := fun k => by
    rw [Bool.eq_iff_iff, beq_iff_eq, beq_iff_eq, ← UInt8.toNat_inj]; omega
  rw [key 91, key 40]; rfl
end Nwl
namespace Go.Proofs.YtkphkcpckgdgaaaDoor
open Nwl
open Go.RowKit Go.Maps
set_option linter.unusedVariables false

theorem zero_span (W : World) : SpR (W.alloc (.cells #[.string ⟨#[]⟩, .string ⟨#[]⟩, .bool false, .bool false] 43)).heap.size (W.alloc (.cells #[.string ⟨#[]⟩, .string ⟨#[]⟩, .bool false, .bool false] 43)) (some ⟨W.heap.size, 0, none⟩) 1 [⟨[], [], false, false⟩] := by
  have X := Blk.new W 43 #[.string ⟨#[]⟩, .string ⟨#[]⟩, .bool false, .bool false]
  refine ⟨rfl, fun j hj => ?_⟩
  have : j = 0 := by simpa using hj
  subst this
  exact ⟨_, 0, rfl, X.lt, X.cell 0, X.cell 1, X.cell 2, X.cell 3⟩
/-- behind the first test: what no range is -/
theorem no_high (W : World) (A2 : Option Addr) (n2 c2 : Nat) (r : List Sp) (h2 : SpR W.heap.size W A2 n2 r) (hn2 : n2 ≤ 1000) (hr : SpShort r) :
    Calls Tryd.prog 15 #[.slice none 0 0, .slice A2 n2 c2] W fun e w' => e = .returned (.tuple #[.string ⟨#[]⟩, .bool false]) ∧ Hid (Below W.heap.size W w') :=
  Highest_c none 0 0 [] A2 n2 c2 r W _ (Nat.le_refl _) ⟨rfl, fun j hj => by simp at hj⟩ h2 (by omega) (fun x hx => by simp at hx) (by omega) hr [] false rfl

set_option maxRecDepth 100000 in
set_option maxHeartbeats 4000000 in
theorem ChoosePlain_walk (A : Option Addr) (n c : Nat) (s : ByteArray) (w : World) (m1 : n ≤ maxLen) (k1 : A = none → n = 0 ∧ c = 0) (h1 : ∃ l : List (List UInt8), StrR w.heap.size w A n l ∧ ∀ x ∈ l, x.length ≤ maxLen) (ms : s.size ≤ maxLen) (hg : Glob w) :
    Calls Tryd.prog 5 #[.slice A n c, .string s] w fun e w' => e = .returned (.bool true) ∧ Below w.heap.size w w' := by
  obtain ⟨l, hR, hS⟩ := h1
  have HR := Lib.hid hR
  have HS := Lib.hid hS
  have HM := Lib.hid m1
  have hn1 := m1
  unfold maxLen at hn1 ms
  clear hR hS m1 k1 hg
  obtain ⟨r, hr⟩ : ∃ r, fewL l = r := ⟨_, rfl⟩
  have HF := Lib.hid hr
  cases r with
  | false =>
    clear hr
    go_enter Tryd.func5, Tryd.ntmps5
    go_wp2_with fail
    refine (few_c A n c l w w.heap.size HR.out HM.out HS.out false HF.out).mono ?_
    rintro e w1 ⟨rfl, rfl⟩
    go_wp2_with fail
    refine (awake8_c _).mono ?_
    rintro e w1 ⟨rfl, B1⟩
    go_wp2_with fail
    go_ret
    exact ⟨rfl, B1.out⟩
  | true =>
    obtain ⟨hx, hn20⟩ := fewL_mem hr
    have hnl := HR.out.1
    have hn : n ≤ 20 := by omega
    have HX : Hid (∀ x ∈ l, x.length ≤ 1000) := Lib.hid fun x h => by have := hx x h; omega
    clear hr hx hn20 hnl
    by_cases hbig : 200 < s.size
    · go_enter Tryd.func5, Tryd.ntmps5
      go_wp2_with fail
      refine (few_c A n c l w w.heap.size HR.out HM.out HS.out true HF.out).mono ?_
      rintro e w1 ⟨rfl, rfl⟩
      go_wp2_with fail
      refine (awake8_c _).mono ?_
      rintro e w1 ⟨rfl, B1⟩
      go_wp2_with fail
      go_ret
      exact ⟨rfl, B1.out⟩
    · have hs200 : s.size ≤ 200 := by omega
      have hs1000 : s.size ≤ 1000 := by omega
      obtain ⟨⟨x, k⟩, hp⟩ : ∃ t, pickV l (bs s) = t := ⟨_, rfl⟩
      have HP := Lib.hid hp
      obtain ⟨q, hq⟩ : ∃ q, isR (bs s) = q := ⟨_, rfl⟩
      clear hbig
      cases q with
      | true =>
        have hk : ¬ k = 11 := pick_k hq x k hp
        have h0 := isR_pos s hq
        have hk2 : (k != 11) = true := by rw [bne_iff_ne]; exact hk
        rw [isR_of h0] at hq
        obtain ⟨z, hz⟩ : ∃ z : Int, ((s[0]'h0).toNat : Int) = z := ⟨_, rfl⟩
        rw [hz, Bool.or_eq_true] at hq
        clear hp hk
        rcases hq with hq | hq
        · go_enter Tryd.func5, Tryd.ntmps5
          go_wp2_with fail
          refine (few_c A n c l w w.heap.size HR.out HM.out HS.out true HF.out).mono ?_
          rintro e w1 ⟨rfl, rfl⟩
          go_wp2_with fail
          refine (Pick_c A n c l s _ _ (Nat.le_refl _) HR.out (by omega) HX.out hs1000 x k HP.out).mono ?_
          rintro e w1 ⟨rfl, b1⟩
          go_wp2_with fail
          refine (awake8_c _).mono ?_
          rintro e w2 ⟨rfl, b2⟩
          have B2 := Lib.hid (b1.out.trans (b2.out.mono b1.out.size))
          go_wp2_with fail
          go_ret
          exact ⟨rfl, B2.out⟩
        · by_cases hq1 : (z == 91) = true
          · go_enter Tryd.func5, Tryd.ntmps5
            go_wp2_with fail
            refine (few_c A n c l w w.heap.size HR.out HM.out HS.out true HF.out).mono ?_
            rintro e w1 ⟨rfl, rfl⟩
            go_wp2_with fail
            refine (Pick_c A n c l s _ _ (Nat.le_refl _) HR.out (by omega) HX.out hs1000 x k HP.out).mono ?_
            rintro e w1 ⟨rfl, b1⟩
            go_wp2_with fail
            refine (awake8_c _).mono ?_
            rintro e w2 ⟨rfl, b2⟩
            have B2 := Lib.hid (b1.out.trans (b2.out.mono b1.out.size))
            go_wp2_with fail
            go_ret
            exact ⟨rfl, B2.out⟩
          · rw [Bool.not_eq_true] at hq1
            go_enter Tryd.func5, Tryd.ntmps5
            go_wp2_with fail
            refine (few_c A n c l w w.heap.size HR.out HM.out HS.out true HF.out).mono ?_
            rintro e w1 ⟨rfl, rfl⟩
            go_wp2_with fail
            refine (Pick_c A n c l s _ _ (Nat.le_refl _) HR.out (by omega) HX.out hs1000 x k HP.out).mono ?_
            rintro e w1 ⟨rfl, b1⟩
            go_wp2_with fail
            refine (awake8_c _).mono ?_
            rintro e w2 ⟨rfl, b2⟩
            have B2 := Lib.hid (b1.out.trans (b2.out.mono b1.out.size))
            go_wp2_with fail
            go_ret
            exact ⟨rfl, B2.out⟩
      | false =>
        rw [pick_plain hq] at hp
        obtain ⟨g, hgt⟩ : ∃ g, rightV (bs s) = g := ⟨_, rfl⟩
        rw [hgt] at hp
        have HG := Lib.hid hgt
        have HT : Hid (∀ y : World, Blk (y.alloc (.cells #[.string ⟨#[]⟩, .string ⟨#[]⟩, .bool false, .bool false] 43)) y.heap.size 43 #[.string ⟨#[]⟩, .string ⟨#[]⟩, .bool false, .bool false]) := Lib.hid fun y => Blk.new _ _ _
        have hcase : s.size = 0 ∨ ∃ h0 : 0 < s.size, ((((s[0]'h0).toNat : Int) == 91) = false ∧ (((s[0]'h0).toNat : Int) == 40) = false) := by
          by_cases h0 : s.size = 0
          · exact .inl h0
          · have h0' : 0 < s.size := by omega
            rw [isR_of h0', Bool.or_eq_false_iff] at hq
            exact .inr ⟨h0', hq⟩
        clear hq hgt
        cases g with
        | false =>
          obtain ⟨rfl, rfl⟩ : [] = x ∧ (11 : Int) = k := by injection hp with e1 e2; exact ⟨e1, e2⟩
          have HX0 : Hid (tx [] = ⟨#[]⟩) := Lib.hid rfl
          clear hp
          rcases hcase with h0 | ⟨h0, hc1, hc2⟩
          all_goals
            go_enter Tryd.func5, Tryd.ntmps5
            go_wp2_with fail
            refine (few_c A n c l w w.heap.size HR.out HM.out HS.out true HF.out).mono ?_
            rintro e w1 ⟨rfl, rfl⟩
            go_wp2_with fail
            refine (Pick_c A n c l s _ _ (Nat.le_refl _) HR.out (by omega) HX.out hs1000 [] 11 HP.out).mono ?_
            rintro e w1 ⟨rfl, b1⟩
            rw [HX0.out]
            go_wp2_with fail
            refine (no_high _ _ 1 1 [⟨[], [], false, false⟩] (zero_span w1) (by omega) (fun x hx => by rw [List.mem_singleton.1 hx]; exact ⟨Nat.zero_le _, Nat.zero_le _⟩)).mono ?_
            rintro e w2 ⟨rfl, b2⟩
            have B2 := Lib.hid ((b1.out.alloc b1.out.size (.cells #[.string ⟨#[]⟩, .string ⟨#[]⟩, .bool false, .bool false] 43)).trans (b2.out.mono (by have := b1.out.size; simp; omega)))
            go_wp2_with fail
            refine (awake8_c _).mono ?_
            rintro e w3 ⟨rfl, b3⟩
            have B3 := Lib.hid (B2.out.trans (b3.out.mono B2.out.size))
            go_wp2_with fail
            refine (refRight_c s _ (by unfold maxLen; omega) false HG.out).mono ?_
            rintro e w4 ⟨rfl, rfl⟩
            go_wp2_with fail
            go_ret
            exact ⟨rfl, B3.out⟩
        | true =>
          obtain ⟨rfl, rfl⟩ : bs s = x ∧ (0 : Int) = k := by injection hp with e1 e2; exact ⟨e1, e2⟩
          clear hp
          rcases hcase with h0 | ⟨h0, hc1, hc2⟩
          all_goals
            go_enter Tryd.func5, Tryd.ntmps5
            go_wp2_with fail
            refine (few_c A n c l w w.heap.size HR.out HM.out HS.out true HF.out).mono ?_
            rintro e w1 ⟨rfl, rfl⟩
            go_wp2_with fail
            refine (Pick_c A n c l s _ _ (Nat.le_refl _) HR.out (by omega) HX.out hs1000 (bs s) 0 HP.out).mono ?_
            rintro e w1 ⟨rfl, b1⟩
            rw [tx_bs]
            go_wp2_with fail
            refine (no_high _ _ 1 1 [⟨[], [], false, false⟩] (zero_span w1) (by omega) (fun x hx => by rw [List.mem_singleton.1 hx]; exact ⟨Nat.zero_le _, Nat.zero_le _⟩)).mono ?_
            rintro e w2 ⟨rfl, b2⟩
            have B2 := Lib.hid ((b1.out.alloc b1.out.size (.cells #[.string ⟨#[]⟩, .string ⟨#[]⟩, .bool false, .bool false] 43)).trans (b2.out.mono (by have := b1.out.size; simp; omega)))
            go_wp2_with fail
            refine (awake8_c _).mono ?_
            rintro e w3 ⟨rfl, b3⟩
            have B3 := Lib.hid (B2.out.trans (b3.out.mono B2.out.size))
            go_wp2_with fail
            refine (refRight_c s _ (by unfold maxLen; omega) true HG.out).mono ?_
            rintro e w4 ⟨rfl, rfl⟩
            go_wp2_with fail
            go_ret
            exact ⟨rfl, B3.out⟩
end Go.Proofs.YtkphkcpckgdgaaaDoor
