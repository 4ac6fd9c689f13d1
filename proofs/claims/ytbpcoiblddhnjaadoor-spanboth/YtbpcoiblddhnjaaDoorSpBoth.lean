/-
  The walk of SpanBoth.
-/
import Derived.Test.YtbpcoiblddhnjaaDoorSpRt
import Derived.Test.YtbpcoiblddhnjaaDoorSpArg
import Derived.Test.YtbpcoiblddhnjaaDoorSpBothC
import Derived.Test.YtbpcoiblddhnjaaDoorGnRow
namespace Go.Proofs.YtbpcoiblddhnjaaDoor
open Nwl
open Go.RowKit Go.Maps
set_option linter.unusedVariables false

theorem Both_b (A1 A2 : Option Addr) (n1 n2 c1 c2 : Nat) (x y : List Sp) (w : World) (B1 B2 : Nat) (hB1 : B1 ≤ w.heap.size) (hB2 : B2 ≤ w.heap.size) (h1 : SpR B1 w A1 n1 x) (h2 : SpR B2 w A2 n2 y) (hm1 : n1 ≤ 12) (hm2 : n2 ≤ 12) (s1 : SpShort x) (s2 : SpShort y) (Z : List Sp) (hZ : bothL x y = Z) :
    Calls Tryd.prog 11 #[.slice A1 n1 c1, .slice A2 n2 c2] w fun e w' => ∃ A n c, e = .returned (.slice A n c) ∧ Hid (SpR w'.heap.size w' A n Z ∧ SpShort Z ∧ n ≤ 10100) ∧ Hid (Below w.heap.size w w') := by
  subst hZ
  refine (Both_c A1 A2 n1 n2 c1 c2 x y w w.heap.size (Nat.le_refl _) (h1.mono hB1) (h2.mono hB2) (by omega) (by omega) s1 s2).mono ?_
  rintro e w' hp
  obtain ⟨A, n, c, h1, h2, h3, h4, h5⟩ := hp.out
  exact ⟨A, n, c, h1, Lib.hid ⟨h2.r, h3, h4⟩, Lib.hid h5⟩

set_option maxRecDepth 100000 in
set_option maxHeartbeats 4000000 in
theorem both_no (A1 A2 : Option Addr) (n1 n2 c1 c2 : Nat) (l1 l2 : List Sp) (v : ByteArray) (w : World) (h1 : SpR w.heap.size w A1 n1 l1) (hn1 : n1 ≤ maxLen) (hl1 : ∀ s ∈ l1, s.lo.length ≤ maxLen ∧ s.hi.length ≤ maxLen) (h2 : SpR w.heap.size w A2 n2 l2) (hn2 : n2 ≤ maxLen) (hl2 : ∀ s ∈ l2, s.lo.length ≤ maxLen ∧ s.hi.length ≤ maxLen) (hv : v.size ≤ maxLen) (hf : fewS l1 = false ∨ fewS l2 = false ∨ 100 < v.size) :
    Calls Tryd.prog 3 #[.slice A1 n1 c1, .slice A2 n2 c2, .string v] w fun e w' => e = .returned (.bool true) ∧ Hid (Below w.heap.size w w') := by
  obtain ⟨f, hfe⟩ : ∃ f, fewS l1 = f := ⟨_, rfl⟩
  obtain ⟨g, hge⟩ : ∃ f, fewS l2 = f := ⟨_, rfl⟩
  rw [hfe, hge] at hf
  have HF := Lib.hid (few_c A1 n1 c1 l1 w _ (Nat.le_refl _) h1 hn1 hl1 f hfe)
  have HG := Lib.hid (few_c A2 n2 c2 l2 w _ (Nat.le_refl _) h2 hn2 hl2 g hge)
  clear h1 hl1 hfe h2 hl2 hge
  unfold maxLen at hv
  cases f with
  | false =>
    clear hf
    go_enter Tryd.func3, Tryd.ntmps3
    go_wp2_with fail
    refine HF.out.mono ?_
    rintro e w1 ⟨rfl, rfl⟩
    go_wp2_with fail
    refine (awake7_c w).mono ?_
    rintro e w2 ⟨rfl, b2⟩
    go_wp2_with fail
    go_ret
    exact ⟨rfl, b2⟩
  | true =>
    cases g with
    | false =>
      clear hf
      go_enter Tryd.func3, Tryd.ntmps3
      go_wp2_with fail
      refine HF.out.mono ?_
      rintro e w1 ⟨rfl, rfl⟩
      go_wp2_with fail
      refine HG.out.mono ?_
      rintro e w1 ⟨rfl, rfl⟩
      go_wp2_with fail
      refine (awake7_c w).mono ?_
      rintro e w2 ⟨rfl, b2⟩
      go_wp2_with fail
      go_ret
      exact ⟨rfl, b2⟩
    | true =>
      have h100 : 100 < v.size := by
        rcases hf with hf | hf | hf
        · cases hf
        · cases hf
        · exact hf
      clear hf
      go_enter Tryd.func3, Tryd.ntmps3
      go_wp2_with fail
      refine HF.out.mono ?_
      rintro e w1 ⟨rfl, rfl⟩
      go_wp2_with fail
      refine HG.out.mono ?_
      rintro e w1 ⟨rfl, rfl⟩
      go_wp2_with fail
      refine (awake7_c w).mono ?_
      rintro e w2 ⟨rfl, b2⟩
      go_wp2_with fail
      go_ret
      exact ⟨rfl, b2⟩

set_option maxRecDepth 100000 in
set_option maxHeartbeats 8000000 in
theorem both_yes (A1 A2 : Option Addr) (n1 n2 c1 c2 : Nat) (l1 l2 : List Sp) (v : ByteArray) (w : World) (h1 : SpR w.heap.size w A1 n1 l1) (hn1 : n1 ≤ maxLen) (hl1 : ∀ s ∈ l1, s.lo.length ≤ maxLen ∧ s.hi.length ≤ maxLen) (h2 : SpR w.heap.size w A2 n2 l2) (hn2 : n2 ≤ maxLen) (hl2 : ∀ s ∈ l2, s.lo.length ≤ maxLen ∧ s.hi.length ≤ maxLen) (hf1 : fewS l1 = true) (hf2 : fewS l2 = true) (hv : v.size ≤ 100) :
    Calls Tryd.prog 3 #[.slice A1 n1 c1, .slice A2 n2 c2, .string v] w fun e w' => e = .returned (.bool true) ∧ Hid (Below w.heap.size w w') := by
  have HF := Lib.hid (few_c A1 n1 c1 l1 w _ (Nat.le_refl _) h1 hn1 hl1 true hf1)
  have HG := Lib.hid (few_c A2 n2 c2 l2 w _ (Nat.le_refl _) h2 hn2 hl2 true hf2)
  have HR1 := Lib.hid (right_c A1 n1 c1 l1 w _ (Nat.le_refl _) h1 hf1)
  have H2 := Lib.hid h2
  have HF2 := Lib.hid hf2
  have HL1 := Lib.hid (fewS_len hf1)
  have HL2 := Lib.hid (fewS_len hf2)
  clear h1 hl1 hf1 h2 hl2 hf2 hn1 hn2
  go_enter Tryd.func3, Tryd.ntmps3
  go_wp2_with fail
  refine HF.out.mono ?_
  rintro e w1 ⟨rfl, rfl⟩
  go_wp2_with fail
  refine HG.out.mono ?_
  rintro e w1 ⟨rfl, rfl⟩
  go_wp2_with fail
  refine HR1.out.mono ?_
  rintro e w1 hp
  obtain ⟨A3, n3, c3, x, rfl, hrow, hn3, hx, hb1⟩ := hp.out
  have RX1 := Lib.hid hrow
  have SX : Hid (SpShort x) := Lib.hid fun s hs => by have := HL1.out s (hx s hs).1; omega
  have MX : Hid (∀ s ∈ x, mayB s = true) := Lib.hid fun s hs => (hx s hs).2
  have B1 := Lib.hid hb1
  clear hp hrow hx hb1
  go_wp2_with fail
  refine (right_c A2 n2 c2 l2 _ _ B1.out.size (H2.out.below B1.out) HF2.out).mono ?_
  rintro e w2 hp
  obtain ⟨A4, n4, c4, y, rfl, hrow, hn4, hy, hb2⟩ := hp.out
  have RY2 := Lib.hid hrow
  have SY : Hid (SpShort y) := Lib.hid fun s hs => by have := HL2.out s (hy s hs).1; omega
  have MY : Hid (∀ s ∈ y, mayB s = true) := Lib.hid fun s hs => (hy s hs).2
  have RX2 := Lib.hid (RX1.out.below hb2)
  have B2 := Lib.hid (B1.out.trans (hb2.mono B1.out.size))
  clear hp hrow hy hb2 RX1 B1
  obtain ⟨Z, hZ⟩ : ∃ Z, bothL x y = Z := ⟨_, rfl⟩
  obtain ⟨Y, hY⟩ : ∃ Z, bothL y x = Z := ⟨_, rfl⟩
  obtain ⟨X, hX⟩ : ∃ Z, bothL x x = Z := ⟨_, rfl⟩
  obtain ⟨p, hp⟩ : ∃ p, holdsB x (bs v) = p := ⟨_, rfl⟩
  obtain ⟨q, hq⟩ : ∃ p, holdsB y (bs v) = p := ⟨_, rfl⟩
  have HP := Lib.hid hp
  have HQ := Lib.hid hq
  have HZ : Hid (holdsB Z (bs v) = (p && q)) := Lib.hid (by rw [← hZ, holds_both y MY.out (bs v) x MX.out, hp, hq])
  have HY : Hid (holdsB Y (bs v) = (p && q)) := Lib.hid (by rw [← hY, holds_both x MX.out (bs v) y MY.out, hp, hq, Bool.and_comm])
  have HX : Hid (holdsB X (bs v) = p) := Lib.hid (by rw [← hX, holds_both x MX.out (bs v) x MX.out, hp, Bool.and_self])
  have EZ := Lib.hid hZ
  have EY := Lib.hid hY
  have EX := Lib.hid hX
  clear hZ hY hX hp hq MX MY
  go_wp2_with fail
  refine (Both_b A3 A4 n3 n4 c3 c4 x y w2 _ _ (Nat.le_refl _) (Nat.le_refl _) RX2.out.r RY2.out.r hn3 hn4 SX.out SY.out Z EZ.out).mono ?_
  rintro e w3 ⟨A5, n5, c5, rfl, r5, b3⟩
  have B3 := Lib.hid (B2.out.trans (b3.out.mono B2.out.size))
  have RX3 := Lib.hid (RX2.out.below b3.out)
  have RY3 := Lib.hid (RY2.out.below b3.out)
  have RZ3 := Lib.hid r5.out.1
  have K3 : Hid (w3.heap.size ≤ w3.heap.size) := Lib.hid (Nat.le_refl _)
  clear b3 B2 RX2 RY2
  have NZ : n5 ≤ 100000 := by have := r5.out.2.2; omega
  have SZ := Lib.hid r5.out.2.1
  clear r5
  obtain ⟨U, hU⟩ : ∃ U, w3.heap.size = U := ⟨_, rfl⟩
  rw [hU] at RZ3 K3
  have K3b : Hid (U ≤ w3.heap.size) := Lib.hid (by omega)
  clear K3 hU
  cases p <;> cases q
  · go_wp2_with fail
    refine (awake7_c _).mono ?_
    rintro e w4 ⟨rfl, b4⟩
    have B4 := Lib.hid (B3.out.trans (b4.out.mono B3.out.size))
    have RX4 := Lib.hid (RX3.out.below b4.out)
    have RY4 := Lib.hid (RY3.out.below b4.out)
    have K4b := Lib.hid (Nat.le_trans K3b.out b4.out.size)
    have RZ4 := Lib.hid (RZ3.out.below (b4.out.mono K3b.out))
    clear B3 RX3 RY3 RZ3 K3b
    go_wp2_with fail
    refine (Holds_c A5 n5 c5 Z v _ _ K4b.out RZ4.out NZ SZ.out (by omega) false HZ.out).mono ?_
    rintro e w5 ⟨rfl, b5⟩
    have B5 := Lib.hid (B4.out.trans (b5.out.mono B4.out.size))
    have RX5 := Lib.hid (RX4.out.below b5.out)
    have RY5 := Lib.hid (RY4.out.below b5.out)
    have K5b := Lib.hid (Nat.le_trans K4b.out b5.out.size)
    have RZ5 := Lib.hid (RZ4.out.below (b5.out.mono K4b.out))
    clear B4 RX4 RY4 RZ4 K4b
    go_wp2_with fail
    refine (Holds_c A3 n3 c3 x v _ _ (Nat.le_refl _) RX5.out.r (by omega) SX.out (by omega) false HP.out).mono ?_
    rintro e w6 ⟨rfl, b6⟩
    have B6 := Lib.hid (B5.out.trans (b6.out.mono B5.out.size))
    have RX6 := Lib.hid (RX5.out.below b6.out)
    have RY6 := Lib.hid (RY5.out.below b6.out)
    have K6b := Lib.hid (Nat.le_trans K5b.out b6.out.size)
    have RZ6 := Lib.hid (RZ5.out.below (b6.out.mono K5b.out))
    clear B5 RX5 RY5 RZ5 K5b
    go_wp2_with fail
    refine (Both_b A4 A3 n4 n3 c4 c3 y x _ _ _ (Nat.le_refl _) (Nat.le_refl _) RY6.out.r RX6.out.r hn4 hn3 SY.out SX.out Y EY.out).mono ?_
    rintro e w7 ⟨A6, n6, c6, rfl, r6, b7⟩
    have B7 := Lib.hid (B6.out.trans (b7.out.mono B6.out.size))
    have RX7 := Lib.hid (RX6.out.below b7.out)
    have RY7 := Lib.hid (RY6.out.below b7.out)
    have K7b := Lib.hid (Nat.le_trans K6b.out b7.out.size)
    have RZ7 := Lib.hid (RZ6.out.below (b7.out.mono K6b.out))
    clear B6 RX6 RY6 RZ6 K6b
    have N6 : n6 ≤ 100000 := by have := r6.out.2.2; omega
    go_wp2_with fail
    refine (Holds_c A6 n6 c6 Y v _ _ (Nat.le_refl _) r6.out.1 N6 r6.out.2.1 (by omega) false HY.out).mono ?_
    rintro e w8 ⟨rfl, b8⟩
    have B8 := Lib.hid (B7.out.trans (b8.out.mono B7.out.size))
    have RX8 := Lib.hid (RX7.out.below b8.out)
    have RY8 := Lib.hid (RY7.out.below b8.out)
    have K8b := Lib.hid (Nat.le_trans K7b.out b8.out.size)
    have RZ8 := Lib.hid (RZ7.out.below (b8.out.mono K7b.out))
    clear B7 RX7 RY7 RZ7 K7b
    go_wp2_with fail
    refine (Holds_c A5 n5 c5 Z v _ _ K8b.out RZ8.out NZ SZ.out (by omega) false HZ.out).mono ?_
    rintro e w9 ⟨rfl, b9⟩
    have B9 := Lib.hid (B8.out.trans (b9.out.mono B8.out.size))
    have RX9 := Lib.hid (RX8.out.below b9.out)
    have RY9 := Lib.hid (RY8.out.below b9.out)
    have K9b := Lib.hid (Nat.le_trans K8b.out b9.out.size)
    have RZ9 := Lib.hid (RZ8.out.below (b9.out.mono K8b.out))
    clear B8 RX8 RY8 RZ8 K8b
    go_wp2_with fail
    refine (Both_b A3 A3 n3 n3 c3 c3 x x _ _ _ (Nat.le_refl _) (Nat.le_refl _) RX9.out.r RX9.out.r hn3 hn3 SX.out SX.out X EX.out).mono ?_
    rintro e w10 ⟨A7, n7, c7, rfl, r7, b10⟩
    have B10 := Lib.hid (B9.out.trans (b10.out.mono B9.out.size))
    have RX10 := Lib.hid (RX9.out.below b10.out)
    have RY10 := Lib.hid (RY9.out.below b10.out)
    have K10b := Lib.hid (Nat.le_trans K9b.out b10.out.size)
    have RZ10 := Lib.hid (RZ9.out.below (b10.out.mono K9b.out))
    clear B9 RX9 RY9 RZ9 K9b
    have N7 : n7 ≤ 100000 := by have := r7.out.2.2; omega
    go_wp2_with fail
    refine (Holds_c A7 n7 c7 X v _ _ (Nat.le_refl _) r7.out.1 N7 r7.out.2.1 (by omega) false HX.out).mono ?_
    rintro e w11 ⟨rfl, b11⟩
    have B11 := Lib.hid (B10.out.trans (b11.out.mono B10.out.size))
    have RX11 := Lib.hid (RX10.out.below b11.out)
    have RY11 := Lib.hid (RY10.out.below b11.out)
    have K11b := Lib.hid (Nat.le_trans K10b.out b11.out.size)
    have RZ11 := Lib.hid (RZ10.out.below (b11.out.mono K10b.out))
    clear B10 RX10 RY10 RZ10 K10b
    go_wp2_with fail
    refine (Holds_c A3 n3 c3 x v _ _ (Nat.le_refl _) RX11.out.r (by omega) SX.out (by omega) false HP.out).mono ?_
    rintro e w12 ⟨rfl, b12⟩
    have B12 := Lib.hid (B11.out.trans (b12.out.mono B11.out.size))
    have RX12 := Lib.hid (RX11.out.below b12.out)
    have RY12 := Lib.hid (RY11.out.below b12.out)
    have K12b := Lib.hid (Nat.le_trans K11b.out b12.out.size)
    have RZ12 := Lib.hid (RZ11.out.below (b12.out.mono K11b.out))
    clear B11 RX11 RY11 RZ11 K11b
    go_wp2_with fail
    refine (Both_b A3 none n3 0 c3 0 x [] _ _ _ (Nat.le_refl _) (Nat.le_refl _) RX12.out.r (SpR.nil _ _ _) hn3 (by omega) SX.out (fun s hs => by simp at hs) [] (both_nil x)).mono ?_
    rintro e w13 ⟨A8, n8, c8, rfl, r8, b13⟩
    have B13 := Lib.hid (B12.out.trans (b13.out.mono B12.out.size))
    have RX13 := Lib.hid (RX12.out.below b13.out)
    have RY13 := Lib.hid (RY12.out.below b13.out)
    have K13b := Lib.hid (Nat.le_trans K12b.out b13.out.size)
    have RZ13 := Lib.hid (RZ12.out.below (b13.out.mono K12b.out))
    clear B12 RX12 RY12 RZ12 K12b
    obtain rfl : n8 = 0 := r8.out.1.1
    go_wp2_with fail
    go_ret
    exact ⟨rfl, B13⟩
  · go_wp2_with fail
    refine (awake7_c _).mono ?_
    rintro e w4 ⟨rfl, b4⟩
    have B4 := Lib.hid (B3.out.trans (b4.out.mono B3.out.size))
    have RX4 := Lib.hid (RX3.out.below b4.out)
    have RY4 := Lib.hid (RY3.out.below b4.out)
    have K4b := Lib.hid (Nat.le_trans K3b.out b4.out.size)
    have RZ4 := Lib.hid (RZ3.out.below (b4.out.mono K3b.out))
    clear B3 RX3 RY3 RZ3 K3b
    go_wp2_with fail
    refine (Holds_c A5 n5 c5 Z v _ _ K4b.out RZ4.out NZ SZ.out (by omega) false HZ.out).mono ?_
    rintro e w5 ⟨rfl, b5⟩
    have B5 := Lib.hid (B4.out.trans (b5.out.mono B4.out.size))
    have RX5 := Lib.hid (RX4.out.below b5.out)
    have RY5 := Lib.hid (RY4.out.below b5.out)
    have K5b := Lib.hid (Nat.le_trans K4b.out b5.out.size)
    have RZ5 := Lib.hid (RZ4.out.below (b5.out.mono K4b.out))
    clear B4 RX4 RY4 RZ4 K4b
    go_wp2_with fail
    refine (Holds_c A3 n3 c3 x v _ _ (Nat.le_refl _) RX5.out.r (by omega) SX.out (by omega) false HP.out).mono ?_
    rintro e w6 ⟨rfl, b6⟩
    have B6 := Lib.hid (B5.out.trans (b6.out.mono B5.out.size))
    have RX6 := Lib.hid (RX5.out.below b6.out)
    have RY6 := Lib.hid (RY5.out.below b6.out)
    have K6b := Lib.hid (Nat.le_trans K5b.out b6.out.size)
    have RZ6 := Lib.hid (RZ5.out.below (b6.out.mono K5b.out))
    clear B5 RX5 RY5 RZ5 K5b
    go_wp2_with fail
    refine (Both_b A4 A3 n4 n3 c4 c3 y x _ _ _ (Nat.le_refl _) (Nat.le_refl _) RY6.out.r RX6.out.r hn4 hn3 SY.out SX.out Y EY.out).mono ?_
    rintro e w7 ⟨A6, n6, c6, rfl, r6, b7⟩
    have B7 := Lib.hid (B6.out.trans (b7.out.mono B6.out.size))
    have RX7 := Lib.hid (RX6.out.below b7.out)
    have RY7 := Lib.hid (RY6.out.below b7.out)
    have K7b := Lib.hid (Nat.le_trans K6b.out b7.out.size)
    have RZ7 := Lib.hid (RZ6.out.below (b7.out.mono K6b.out))
    clear B6 RX6 RY6 RZ6 K6b
    have N6 : n6 ≤ 100000 := by have := r6.out.2.2; omega
    go_wp2_with fail
    refine (Holds_c A6 n6 c6 Y v _ _ (Nat.le_refl _) r6.out.1 N6 r6.out.2.1 (by omega) false HY.out).mono ?_
    rintro e w8 ⟨rfl, b8⟩
    have B8 := Lib.hid (B7.out.trans (b8.out.mono B7.out.size))
    have RX8 := Lib.hid (RX7.out.below b8.out)
    have RY8 := Lib.hid (RY7.out.below b8.out)
    have K8b := Lib.hid (Nat.le_trans K7b.out b8.out.size)
    have RZ8 := Lib.hid (RZ7.out.below (b8.out.mono K7b.out))
    clear B7 RX7 RY7 RZ7 K7b
    go_wp2_with fail
    refine (Holds_c A5 n5 c5 Z v _ _ K8b.out RZ8.out NZ SZ.out (by omega) false HZ.out).mono ?_
    rintro e w9 ⟨rfl, b9⟩
    have B9 := Lib.hid (B8.out.trans (b9.out.mono B8.out.size))
    have RX9 := Lib.hid (RX8.out.below b9.out)
    have RY9 := Lib.hid (RY8.out.below b9.out)
    have K9b := Lib.hid (Nat.le_trans K8b.out b9.out.size)
    have RZ9 := Lib.hid (RZ8.out.below (b9.out.mono K8b.out))
    clear B8 RX8 RY8 RZ8 K8b
    go_wp2_with fail
    refine (Both_b A3 A3 n3 n3 c3 c3 x x _ _ _ (Nat.le_refl _) (Nat.le_refl _) RX9.out.r RX9.out.r hn3 hn3 SX.out SX.out X EX.out).mono ?_
    rintro e w10 ⟨A7, n7, c7, rfl, r7, b10⟩
    have B10 := Lib.hid (B9.out.trans (b10.out.mono B9.out.size))
    have RX10 := Lib.hid (RX9.out.below b10.out)
    have RY10 := Lib.hid (RY9.out.below b10.out)
    have K10b := Lib.hid (Nat.le_trans K9b.out b10.out.size)
    have RZ10 := Lib.hid (RZ9.out.below (b10.out.mono K9b.out))
    clear B9 RX9 RY9 RZ9 K9b
    have N7 : n7 ≤ 100000 := by have := r7.out.2.2; omega
    go_wp2_with fail
    refine (Holds_c A7 n7 c7 X v _ _ (Nat.le_refl _) r7.out.1 N7 r7.out.2.1 (by omega) false HX.out).mono ?_
    rintro e w11 ⟨rfl, b11⟩
    have B11 := Lib.hid (B10.out.trans (b11.out.mono B10.out.size))
    have RX11 := Lib.hid (RX10.out.below b11.out)
    have RY11 := Lib.hid (RY10.out.below b11.out)
    have K11b := Lib.hid (Nat.le_trans K10b.out b11.out.size)
    have RZ11 := Lib.hid (RZ10.out.below (b11.out.mono K10b.out))
    clear B10 RX10 RY10 RZ10 K10b
    go_wp2_with fail
    refine (Holds_c A3 n3 c3 x v _ _ (Nat.le_refl _) RX11.out.r (by omega) SX.out (by omega) false HP.out).mono ?_
    rintro e w12 ⟨rfl, b12⟩
    have B12 := Lib.hid (B11.out.trans (b12.out.mono B11.out.size))
    have RX12 := Lib.hid (RX11.out.below b12.out)
    have RY12 := Lib.hid (RY11.out.below b12.out)
    have K12b := Lib.hid (Nat.le_trans K11b.out b12.out.size)
    have RZ12 := Lib.hid (RZ11.out.below (b12.out.mono K11b.out))
    clear B11 RX11 RY11 RZ11 K11b
    go_wp2_with fail
    refine (Both_b A3 none n3 0 c3 0 x [] _ _ _ (Nat.le_refl _) (Nat.le_refl _) RX12.out.r (SpR.nil _ _ _) hn3 (by omega) SX.out (fun s hs => by simp at hs) [] (both_nil x)).mono ?_
    rintro e w13 ⟨A8, n8, c8, rfl, r8, b13⟩
    have B13 := Lib.hid (B12.out.trans (b13.out.mono B12.out.size))
    have RX13 := Lib.hid (RX12.out.below b13.out)
    have RY13 := Lib.hid (RY12.out.below b13.out)
    have K13b := Lib.hid (Nat.le_trans K12b.out b13.out.size)
    have RZ13 := Lib.hid (RZ12.out.below (b13.out.mono K12b.out))
    clear B12 RX12 RY12 RZ12 K12b
    obtain rfl : n8 = 0 := r8.out.1.1
    go_wp2_with fail
    go_ret
    exact ⟨rfl, B13⟩
  · go_wp2_with fail
    refine (awake7_c _).mono ?_
    rintro e w4 ⟨rfl, b4⟩
    have B4 := Lib.hid (B3.out.trans (b4.out.mono B3.out.size))
    have RX4 := Lib.hid (RX3.out.below b4.out)
    have RY4 := Lib.hid (RY3.out.below b4.out)
    have K4b := Lib.hid (Nat.le_trans K3b.out b4.out.size)
    have RZ4 := Lib.hid (RZ3.out.below (b4.out.mono K3b.out))
    clear B3 RX3 RY3 RZ3 K3b
    go_wp2_with fail
    refine (Holds_c A5 n5 c5 Z v _ _ K4b.out RZ4.out NZ SZ.out (by omega) false HZ.out).mono ?_
    rintro e w5 ⟨rfl, b5⟩
    have B5 := Lib.hid (B4.out.trans (b5.out.mono B4.out.size))
    have RX5 := Lib.hid (RX4.out.below b5.out)
    have RY5 := Lib.hid (RY4.out.below b5.out)
    have K5b := Lib.hid (Nat.le_trans K4b.out b5.out.size)
    have RZ5 := Lib.hid (RZ4.out.below (b5.out.mono K4b.out))
    clear B4 RX4 RY4 RZ4 K4b
    go_wp2_with fail
    refine (Holds_c A3 n3 c3 x v _ _ (Nat.le_refl _) RX5.out.r (by omega) SX.out (by omega) true HP.out).mono ?_
    rintro e w6 ⟨rfl, b6⟩
    have B6 := Lib.hid (B5.out.trans (b6.out.mono B5.out.size))
    have RX6 := Lib.hid (RX5.out.below b6.out)
    have RY6 := Lib.hid (RY5.out.below b6.out)
    have K6b := Lib.hid (Nat.le_trans K5b.out b6.out.size)
    have RZ6 := Lib.hid (RZ5.out.below (b6.out.mono K5b.out))
    clear B5 RX5 RY5 RZ5 K5b
    go_wp2_with fail
    refine (Holds_c A4 n4 c4 y v _ _ (Nat.le_refl _) RY6.out.r (by omega) SY.out (by omega) false HQ.out).mono ?_
    rintro e w7 ⟨rfl, b7⟩
    have B7 := Lib.hid (B6.out.trans (b7.out.mono B6.out.size))
    have RX7 := Lib.hid (RX6.out.below b7.out)
    have RY7 := Lib.hid (RY6.out.below b7.out)
    have K7b := Lib.hid (Nat.le_trans K6b.out b7.out.size)
    have RZ7 := Lib.hid (RZ6.out.below (b7.out.mono K6b.out))
    clear B6 RX6 RY6 RZ6 K6b
    go_wp2_with fail
    refine (Both_b A4 A3 n4 n3 c4 c3 y x _ _ _ (Nat.le_refl _) (Nat.le_refl _) RY7.out.r RX7.out.r hn4 hn3 SY.out SX.out Y EY.out).mono ?_
    rintro e w8 ⟨A6, n6, c6, rfl, r6, b8⟩
    have B8 := Lib.hid (B7.out.trans (b8.out.mono B7.out.size))
    have RX8 := Lib.hid (RX7.out.below b8.out)
    have RY8 := Lib.hid (RY7.out.below b8.out)
    have K8b := Lib.hid (Nat.le_trans K7b.out b8.out.size)
    have RZ8 := Lib.hid (RZ7.out.below (b8.out.mono K7b.out))
    clear B7 RX7 RY7 RZ7 K7b
    have N6 : n6 ≤ 100000 := by have := r6.out.2.2; omega
    go_wp2_with fail
    refine (Holds_c A6 n6 c6 Y v _ _ (Nat.le_refl _) r6.out.1 N6 r6.out.2.1 (by omega) false HY.out).mono ?_
    rintro e w9 ⟨rfl, b9⟩
    have B9 := Lib.hid (B8.out.trans (b9.out.mono B8.out.size))
    have RX9 := Lib.hid (RX8.out.below b9.out)
    have RY9 := Lib.hid (RY8.out.below b9.out)
    have K9b := Lib.hid (Nat.le_trans K8b.out b9.out.size)
    have RZ9 := Lib.hid (RZ8.out.below (b9.out.mono K8b.out))
    clear B8 RX8 RY8 RZ8 K8b
    go_wp2_with fail
    refine (Holds_c A5 n5 c5 Z v _ _ K9b.out RZ9.out NZ SZ.out (by omega) false HZ.out).mono ?_
    rintro e w10 ⟨rfl, b10⟩
    have B10 := Lib.hid (B9.out.trans (b10.out.mono B9.out.size))
    have RX10 := Lib.hid (RX9.out.below b10.out)
    have RY10 := Lib.hid (RY9.out.below b10.out)
    have K10b := Lib.hid (Nat.le_trans K9b.out b10.out.size)
    have RZ10 := Lib.hid (RZ9.out.below (b10.out.mono K9b.out))
    clear B9 RX9 RY9 RZ9 K9b
    go_wp2_with fail
    refine (Both_b A3 A3 n3 n3 c3 c3 x x _ _ _ (Nat.le_refl _) (Nat.le_refl _) RX10.out.r RX10.out.r hn3 hn3 SX.out SX.out X EX.out).mono ?_
    rintro e w11 ⟨A7, n7, c7, rfl, r7, b11⟩
    have B11 := Lib.hid (B10.out.trans (b11.out.mono B10.out.size))
    have RX11 := Lib.hid (RX10.out.below b11.out)
    have RY11 := Lib.hid (RY10.out.below b11.out)
    have K11b := Lib.hid (Nat.le_trans K10b.out b11.out.size)
    have RZ11 := Lib.hid (RZ10.out.below (b11.out.mono K10b.out))
    clear B10 RX10 RY10 RZ10 K10b
    have N7 : n7 ≤ 100000 := by have := r7.out.2.2; omega
    go_wp2_with fail
    refine (Holds_c A7 n7 c7 X v _ _ (Nat.le_refl _) r7.out.1 N7 r7.out.2.1 (by omega) true HX.out).mono ?_
    rintro e w12 ⟨rfl, b12⟩
    have B12 := Lib.hid (B11.out.trans (b12.out.mono B11.out.size))
    have RX12 := Lib.hid (RX11.out.below b12.out)
    have RY12 := Lib.hid (RY11.out.below b12.out)
    have K12b := Lib.hid (Nat.le_trans K11b.out b12.out.size)
    have RZ12 := Lib.hid (RZ11.out.below (b12.out.mono K11b.out))
    clear B11 RX11 RY11 RZ11 K11b
    go_wp2_with fail
    refine (Holds_c A3 n3 c3 x v _ _ (Nat.le_refl _) RX12.out.r (by omega) SX.out (by omega) true HP.out).mono ?_
    rintro e w13 ⟨rfl, b13⟩
    have B13 := Lib.hid (B12.out.trans (b13.out.mono B12.out.size))
    have RX13 := Lib.hid (RX12.out.below b13.out)
    have RY13 := Lib.hid (RY12.out.below b13.out)
    have K13b := Lib.hid (Nat.le_trans K12b.out b13.out.size)
    have RZ13 := Lib.hid (RZ12.out.below (b13.out.mono K12b.out))
    clear B12 RX12 RY12 RZ12 K12b
    go_wp2_with fail
    refine (Both_b A3 none n3 0 c3 0 x [] _ _ _ (Nat.le_refl _) (Nat.le_refl _) RX13.out.r (SpR.nil _ _ _) hn3 (by omega) SX.out (fun s hs => by simp at hs) [] (both_nil x)).mono ?_
    rintro e w14 ⟨A8, n8, c8, rfl, r8, b14⟩
    have B14 := Lib.hid (B13.out.trans (b14.out.mono B13.out.size))
    have RX14 := Lib.hid (RX13.out.below b14.out)
    have RY14 := Lib.hid (RY13.out.below b14.out)
    have K14b := Lib.hid (Nat.le_trans K13b.out b14.out.size)
    have RZ14 := Lib.hid (RZ13.out.below (b14.out.mono K13b.out))
    clear B13 RX13 RY13 RZ13 K13b
    obtain rfl : n8 = 0 := r8.out.1.1
    go_wp2_with fail
    go_ret
    exact ⟨rfl, B14⟩
  · go_wp2_with fail
    refine (awake7_c _).mono ?_
    rintro e w4 ⟨rfl, b4⟩
    have B4 := Lib.hid (B3.out.trans (b4.out.mono B3.out.size))
    have RX4 := Lib.hid (RX3.out.below b4.out)
    have RY4 := Lib.hid (RY3.out.below b4.out)
    have K4b := Lib.hid (Nat.le_trans K3b.out b4.out.size)
    have RZ4 := Lib.hid (RZ3.out.below (b4.out.mono K3b.out))
    clear B3 RX3 RY3 RZ3 K3b
    go_wp2_with fail
    refine (Holds_c A5 n5 c5 Z v _ _ K4b.out RZ4.out NZ SZ.out (by omega) true HZ.out).mono ?_
    rintro e w5 ⟨rfl, b5⟩
    have B5 := Lib.hid (B4.out.trans (b5.out.mono B4.out.size))
    have RX5 := Lib.hid (RX4.out.below b5.out)
    have RY5 := Lib.hid (RY4.out.below b5.out)
    have K5b := Lib.hid (Nat.le_trans K4b.out b5.out.size)
    have RZ5 := Lib.hid (RZ4.out.below (b5.out.mono K4b.out))
    clear B4 RX4 RY4 RZ4 K4b
    go_wp2_with fail
    refine (Holds_c A3 n3 c3 x v _ _ (Nat.le_refl _) RX5.out.r (by omega) SX.out (by omega) true HP.out).mono ?_
    rintro e w6 ⟨rfl, b6⟩
    have B6 := Lib.hid (B5.out.trans (b6.out.mono B5.out.size))
    have RX6 := Lib.hid (RX5.out.below b6.out)
    have RY6 := Lib.hid (RY5.out.below b6.out)
    have K6b := Lib.hid (Nat.le_trans K5b.out b6.out.size)
    have RZ6 := Lib.hid (RZ5.out.below (b6.out.mono K5b.out))
    clear B5 RX5 RY5 RZ5 K5b
    go_wp2_with fail
    refine (Holds_c A4 n4 c4 y v _ _ (Nat.le_refl _) RY6.out.r (by omega) SY.out (by omega) true HQ.out).mono ?_
    rintro e w7 ⟨rfl, b7⟩
    have B7 := Lib.hid (B6.out.trans (b7.out.mono B6.out.size))
    have RX7 := Lib.hid (RX6.out.below b7.out)
    have RY7 := Lib.hid (RY6.out.below b7.out)
    have K7b := Lib.hid (Nat.le_trans K6b.out b7.out.size)
    have RZ7 := Lib.hid (RZ6.out.below (b7.out.mono K6b.out))
    clear B6 RX6 RY6 RZ6 K6b
    go_wp2_with fail
    refine (Both_b A4 A3 n4 n3 c4 c3 y x _ _ _ (Nat.le_refl _) (Nat.le_refl _) RY7.out.r RX7.out.r hn4 hn3 SY.out SX.out Y EY.out).mono ?_
    rintro e w8 ⟨A6, n6, c6, rfl, r6, b8⟩
    have B8 := Lib.hid (B7.out.trans (b8.out.mono B7.out.size))
    have RX8 := Lib.hid (RX7.out.below b8.out)
    have RY8 := Lib.hid (RY7.out.below b8.out)
    have K8b := Lib.hid (Nat.le_trans K7b.out b8.out.size)
    have RZ8 := Lib.hid (RZ7.out.below (b8.out.mono K7b.out))
    clear B7 RX7 RY7 RZ7 K7b
    have N6 : n6 ≤ 100000 := by have := r6.out.2.2; omega
    go_wp2_with fail
    refine (Holds_c A6 n6 c6 Y v _ _ (Nat.le_refl _) r6.out.1 N6 r6.out.2.1 (by omega) true HY.out).mono ?_
    rintro e w9 ⟨rfl, b9⟩
    have B9 := Lib.hid (B8.out.trans (b9.out.mono B8.out.size))
    have RX9 := Lib.hid (RX8.out.below b9.out)
    have RY9 := Lib.hid (RY8.out.below b9.out)
    have K9b := Lib.hid (Nat.le_trans K8b.out b9.out.size)
    have RZ9 := Lib.hid (RZ8.out.below (b9.out.mono K8b.out))
    clear B8 RX8 RY8 RZ8 K8b
    go_wp2_with fail
    refine (Holds_c A5 n5 c5 Z v _ _ K9b.out RZ9.out NZ SZ.out (by omega) true HZ.out).mono ?_
    rintro e w10 ⟨rfl, b10⟩
    have B10 := Lib.hid (B9.out.trans (b10.out.mono B9.out.size))
    have RX10 := Lib.hid (RX9.out.below b10.out)
    have RY10 := Lib.hid (RY9.out.below b10.out)
    have K10b := Lib.hid (Nat.le_trans K9b.out b10.out.size)
    have RZ10 := Lib.hid (RZ9.out.below (b10.out.mono K9b.out))
    clear B9 RX9 RY9 RZ9 K9b
    go_wp2_with fail
    refine (Both_b A3 A3 n3 n3 c3 c3 x x _ _ _ (Nat.le_refl _) (Nat.le_refl _) RX10.out.r RX10.out.r hn3 hn3 SX.out SX.out X EX.out).mono ?_
    rintro e w11 ⟨A7, n7, c7, rfl, r7, b11⟩
    have B11 := Lib.hid (B10.out.trans (b11.out.mono B10.out.size))
    have RX11 := Lib.hid (RX10.out.below b11.out)
    have RY11 := Lib.hid (RY10.out.below b11.out)
    have K11b := Lib.hid (Nat.le_trans K10b.out b11.out.size)
    have RZ11 := Lib.hid (RZ10.out.below (b11.out.mono K10b.out))
    clear B10 RX10 RY10 RZ10 K10b
    have N7 : n7 ≤ 100000 := by have := r7.out.2.2; omega
    go_wp2_with fail
    refine (Holds_c A7 n7 c7 X v _ _ (Nat.le_refl _) r7.out.1 N7 r7.out.2.1 (by omega) true HX.out).mono ?_
    rintro e w12 ⟨rfl, b12⟩
    have B12 := Lib.hid (B11.out.trans (b12.out.mono B11.out.size))
    have RX12 := Lib.hid (RX11.out.below b12.out)
    have RY12 := Lib.hid (RY11.out.below b12.out)
    have K12b := Lib.hid (Nat.le_trans K11b.out b12.out.size)
    have RZ12 := Lib.hid (RZ11.out.below (b12.out.mono K11b.out))
    clear B11 RX11 RY11 RZ11 K11b
    go_wp2_with fail
    refine (Holds_c A3 n3 c3 x v _ _ (Nat.le_refl _) RX12.out.r (by omega) SX.out (by omega) true HP.out).mono ?_
    rintro e w13 ⟨rfl, b13⟩
    have B13 := Lib.hid (B12.out.trans (b13.out.mono B12.out.size))
    have RX13 := Lib.hid (RX12.out.below b13.out)
    have RY13 := Lib.hid (RY12.out.below b13.out)
    have K13b := Lib.hid (Nat.le_trans K12b.out b13.out.size)
    have RZ13 := Lib.hid (RZ12.out.below (b13.out.mono K12b.out))
    clear B12 RX12 RY12 RZ12 K12b
    go_wp2_with fail
    refine (Both_b A3 none n3 0 c3 0 x [] _ _ _ (Nat.le_refl _) (Nat.le_refl _) RX13.out.r (SpR.nil _ _ _) hn3 (by omega) SX.out (fun s hs => by simp at hs) [] (both_nil x)).mono ?_
    rintro e w14 ⟨A8, n8, c8, rfl, r8, b14⟩
    have B14 := Lib.hid (B13.out.trans (b14.out.mono B13.out.size))
    have RX14 := Lib.hid (RX13.out.below b14.out)
    have RY14 := Lib.hid (RY13.out.below b14.out)
    have K14b := Lib.hid (Nat.le_trans K13b.out b14.out.size)
    have RZ14 := Lib.hid (RZ13.out.below (b14.out.mono K13b.out))
    clear B13 RX13 RY13 RZ13 K13b
    obtain rfl : n8 = 0 := r8.out.1.1
    go_wp2_with fail
    go_ret
    exact ⟨rfl, B14⟩

theorem SpanBoth_walk (A1 : Option Addr) (n1 c1 : Nat) (A2 : Option Addr) (n2 c2 : Nat) (v : ByteArray) (w : World) (hn1 : n1 ≤ maxLen) (hA1 : A1 = none → n1 = 0 ∧ c1 = 0) (h1 : ∃ l : List Sp, SpR w.heap.size w A1 n1 l ∧ ∀ s ∈ l, s.lo.length ≤ maxLen ∧ s.hi.length ≤ maxLen) (hn2 : n2 ≤ maxLen) (hA2 : A2 = none → n2 = 0 ∧ c2 = 0) (h2 : ∃ l : List Sp, SpR w.heap.size w A2 n2 l ∧ ∀ s ∈ l, s.lo.length ≤ maxLen ∧ s.hi.length ≤ maxLen) (hv : v.size ≤ maxLen) (hg : Glob w) :
    Calls Tryd.prog 3 #[.slice A1 n1 c1, .slice A2 n2 c2, .string v] w fun e w' => e = .returned (.bool true) ∧ Below w.heap.size w w' := by
  obtain ⟨l1, h1, hl1⟩ := h1
  obtain ⟨l2, h2, hl2⟩ := h2
  have key : Calls Tryd.prog 3 #[.slice A1 n1 c1, .slice A2 n2 c2, .string v] w fun e w' => e = .returned (.bool true) ∧ Hid (Below w.heap.size w w') := by
    by_cases hf1 : fewS l1 = true
    · by_cases hf2 : fewS l2 = true
      · rcases Nat.lt_or_ge 100 v.size with hl | hl
        · exact both_no A1 A2 n1 n2 c1 c2 l1 l2 v w h1 hn1 hl1 h2 hn2 hl2 hv (.inr (.inr hl))
        · exact both_yes A1 A2 n1 n2 c1 c2 l1 l2 v w h1 hn1 hl1 h2 hn2 hl2 hf1 hf2 hl
      · exact both_no A1 A2 n1 n2 c1 c2 l1 l2 v w h1 hn1 hl1 h2 hn2 hl2 hv (.inr (.inl (by simpa using hf2)))
    · exact both_no A1 A2 n1 n2 c1 c2 l1 l2 v w h1 hn1 hl1 h2 hn2 hl2 hv (.inl (by simpa using hf1))
  exact key.mono fun e w' h => ⟨h.1, h.2.out⟩
end Go.Proofs.YtbpcoiblddhnjaaDoor
