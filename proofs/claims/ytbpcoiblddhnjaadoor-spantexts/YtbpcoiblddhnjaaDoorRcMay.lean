/-
  The document's May, behind, blank, Is (newelref05).
-/
import Derived.Test.YtbpcoiblddhnjaaDoorRcWords
import Derived.Test.YtbpcoiblddhnjaaDoorSpMem
namespace Nwl
open Go
/-- the way the document puts it -/
theorem may_cmp (s : Sp) (c : Int) (hc : cmpV s.lo s.hi = c) (hl : s.lo ≠ []) (hh : s.hi ≠ []) (r1 : rightV s.lo = true) (r2 : rightV s.hi = true) : mayB s = (decide (c < 0) || (c == 0 && (s.il && s.ih))) := by
  have ha := ord_v.anti s.lo s.hi
  unfold mayB boundB aboveB
  rw [nil_beq _ hl, nil_beq _ hh, r1, r2, ha, hc]
  simp only [Bool.false_and, Bool.false_or, Bool.true_and]
  congr 1
  · rw [Bool.eq_iff_iff, decide_eq_true_eq, decide_eq_true_eq]; omega
  · congr 1
    rw [Bool.eq_iff_iff, beq_iff_eq, beq_iff_eq]; omega
theorem may_lo (s : Sp) (hl : s.lo = []) : mayB s = (!s.il && boundB s.hi s.ih) := by
  unfold mayB boundB
  rw [hl]
  have : rightV [] = false := by decide
  rw [this]
  simp
theorem may_hi (s : Sp) (hl : s.hi = []) : mayB s = (boundB s.lo s.il && !s.ih) := by
  unfold mayB boundB
  rw [hl]
  have : rightV [] = false := by decide
  rw [this]
  simp
theorem bound_ne (l : List UInt8) (i : Bool) (h : l ≠ []) : boundB l i = rightV l := by
  unfold boundB; rw [nil_beq _ h]; simp
theorem may_r1 (s : Sp) (hl : s.lo ≠ []) (r1 : rightV s.lo = false) : mayB s = false := by
  unfold mayB; rw [bound_ne _ _ hl, r1]; rfl
theorem may_r2 (s : Sp) (hl : s.hi ≠ []) (r1 : rightV s.hi = false) : mayB s = false := by
  unfold mayB; rw [bound_ne _ _ hl, r1]; simp
end Nwl
namespace Go.Proofs.YtbpcoiblddhnjaaDoor
open Nwl
open Go.RowKit Go.Maps
set_option linter.unusedVariables false

set_option maxRecDepth 100000 in
set_option maxHeartbeats 2000000 in
theorem rMay_w (a b : ByteArray) (p q : Bool) (w : World) (ha : a.size ≤ 3000) (hb : b.size ≤ 3000) (r : Bool) (hr : mayB ⟨bs a, bs b, p, q⟩ = r) :
    Calls Tryd.prog 20 #[.agg #[.string a, .string b, .bool p, .bool q]] w fun e w' => e = .returned (.bool r) ∧ Hid (Below w.heap.size w w') := by
  have ha2 : a.size ≤ maxLen := by unfold maxLen; omega
  have hb2 : b.size ≤ maxLen := by unfold maxLen; omega
  have B0 : Hid (Below w.heap.size w (w.alloc (.cells #[.string a, .string b, .bool p, .bool q] 39))) := Lib.hid ((Below.refl _ _).alloc (Nat.le_refl _) _)
  obtain ⟨k0, k1, k2, k3⟩ := box4 w (.string a) (.string b) (.bool p) (.bool q)
  have X0 := Lib.hid (Blk.new w 39 #[.string a, .string b, .bool p, .bool q])
  by_cases h0 : a.size = 0
  · have he : a.toList = [] := toList_nil_of a h0
    rw [may_lo _ (bs_nil h0)] at hr
    dsimp only at hr
    by_cases h1 : b.size = 0
    · have he2 : b.toList = [] := toList_nil_of b h1
      rw [bs_nil h1] at hr
      cases p <;> cases q
      all_goals (
        have HR : Hid (_ = r) := Lib.hid hr
        clear hr h0 h1
        go_enter Tryd.func20, Tryd.ntmps20
        go_wp2_with fail
        go_ret
        exact ⟨ret_bool HR.out, B0⟩)
    · have hs : 0 < b.size := by omega
      have hne : (b.toList == []) = false := by rw [toList_bs]; exact bs_beq_nil hs
      have hne1 : (b.toList != []) = true := by rw [bne, hne]; rfl
      rw [bound_ne _ _ (by rw [bs_hd hs]; simp)] at hr
      obtain ⟨R, hR⟩ : ∃ R, rightV (bs b) = R := ⟨_, rfl⟩
      rw [hR] at hr
      have HRR := Lib.hid hR
      cases R <;> cases p
      all_goals (
        have HR : Hid (_ = r) := Lib.hid hr
        clear hr h0 h1 hR
        go_enter Tryd.func20, Tryd.ntmps20
        go_wp2_with fail
        refine (refRight_c b _ hb2 _ HRR.out).mono ?_
        rintro e w1 ⟨rfl, rfl⟩
        go_wp2_with fail
        go_ret
        exact ⟨ret_bool HR.out, B0⟩)
  · have hs : 0 < a.size := by omega
    have hne : (a.toList == []) = false := by rw [toList_bs]; exact bs_beq_nil hs
    have hne1 : (a.toList != []) = true := by rw [bne, hne]; rfl
    have hal : bs a ≠ [] := by rw [bs_hd hs]; simp
    obtain ⟨R, hR⟩ : ∃ R, rightV (bs a) = R := ⟨_, rfl⟩
    have HRA := Lib.hid hR
    cases R with
    | false =>
      rw [may_r1 _ hal hR] at hr
      have HR : Hid (_ = r) := Lib.hid hr
      clear hr h0 hR hal
      go_enter Tryd.func20, Tryd.ntmps20
      go_wp2_with fail
      refine (refRight_c a _ ha2 _ HRA.out).mono ?_
      rintro e w1 ⟨rfl, rfl⟩
      go_wp2_with fail
      go_ret
      exact ⟨ret_bool HR.out, B0⟩
    | true =>
      by_cases h1 : b.size = 0
      · have he2 : b.toList = [] := toList_nil_of b h1
        rw [may_hi _ (bs_nil h1)] at hr
        dsimp only at hr
        rw [bound_ne _ _ hal, hR] at hr
        cases q
        all_goals (
          have HR : Hid (_ = r) := Lib.hid hr
          clear hr h0 h1 hR hal
          go_enter Tryd.func20, Tryd.ntmps20
          go_wp2_with fail
          refine (refRight_c a _ ha2 _ HRA.out).mono ?_
          rintro e w1 ⟨rfl, rfl⟩
          go_wp2_with fail
          go_ret
          exact ⟨ret_bool HR.out, B0⟩)
      · have hs2 : 0 < b.size := by omega
        have hneb : (b.toList == []) = false := by rw [toList_bs]; exact bs_beq_nil hs2
        have hneb1 : (b.toList != []) = true := by rw [bne, hneb]; rfl
        have hbl : bs b ≠ [] := by rw [bs_hd hs2]; simp
        obtain ⟨R2, hR2⟩ : ∃ R, rightV (bs b) = R := ⟨_, rfl⟩
        have HRB := Lib.hid hR2
        cases R2 with
        | false =>
          rw [may_r2 _ hbl hR2] at hr
          have HR : Hid (_ = r) := Lib.hid hr
          clear hr h0 h1 hR hR2 hal hbl
          go_enter Tryd.func20, Tryd.ntmps20
          go_wp2_with fail
          refine (refRight_c a _ ha2 _ HRA.out).mono ?_
          rintro e w1 ⟨rfl, rfl⟩
          go_wp2_with fail
          refine (refRight_c b _ hb2 _ HRB.out).mono ?_
          rintro e w1 ⟨rfl, rfl⟩
          go_wp2_with fail
          go_ret
          exact ⟨ret_bool HR.out, B0⟩
        | true =>
          obtain ⟨c, hc⟩ : ∃ c, cmpV (bs a) (bs b) = c := ⟨_, rfl⟩
          have hsg := ord_v.sgn (bs a) (bs b)
          rw [hc] at hsg
          rw [may_cmp ⟨bs a, bs b, p, q⟩ c hc hal hbl hR hR2] at hr
          dsimp only at hr
          have HC := Lib.hid hc
          clear hc hR hR2 h0 h1 hal hbl
          rcases hsg with rfl | rfl | rfl
          · have HR : Hid (_ = r) := Lib.hid hr
            clear hr
            go_enter Tryd.func20, Tryd.ntmps20
            go_wp2_with fail
            refine (refRight_c a _ ha2 _ HRA.out).mono ?_
            rintro e w1 ⟨rfl, rfl⟩
            go_wp2_with fail
            refine (refRight_c b _ hb2 _ HRB.out).mono ?_
            rintro e w1 ⟨rfl, rfl⟩
            go_wp2_with fail
            refine (rCompare_c a b _ ha hb _ HC.out).mono ?_
            rintro e w1 ⟨rfl, b1⟩
            have B1 := Lib.hid (B0.out.trans (b1.out.mono B0.out.size))
            go_wp2_with fail
            go_ret
            exact ⟨ret_bool HR.out, B1⟩
          · have HR : Hid ((p && q) = r) := Lib.hid (by rw [← hr]; rfl)
            clear hr
            cases p
            all_goals (
              go_enter Tryd.func20, Tryd.ntmps20
              go_wp2_with fail
              refine (refRight_c a _ ha2 _ HRA.out).mono ?_
              rintro e w1 ⟨rfl, rfl⟩
              go_wp2_with fail
              refine (refRight_c b _ hb2 _ HRB.out).mono ?_
              rintro e w1 ⟨rfl, rfl⟩
              go_wp2_with fail
              refine (rCompare_c a b _ ha hb _ HC.out).mono ?_
              rintro e w1 ⟨rfl, b1⟩
              have B1 := Lib.hid (B0.out.trans (b1.out.mono B0.out.size))
              have X1 := X0.out.below b1.out
              have j2 := X1.cell 2
              have j3 := X1.cell 3
              simp at j2 j3
              clear X1
              go_wp2_with fail
              go_ret
              exact ⟨ret_bool HR.out, B1⟩)
          · have HR : Hid (_ = r) := Lib.hid hr
            clear hr
            go_enter Tryd.func20, Tryd.ntmps20
            go_wp2_with fail
            refine (refRight_c a _ ha2 _ HRA.out).mono ?_
            rintro e w1 ⟨rfl, rfl⟩
            go_wp2_with fail
            refine (refRight_c b _ hb2 _ HRB.out).mono ?_
            rintro e w1 ⟨rfl, rfl⟩
            go_wp2_with fail
            refine (rCompare_c a b _ ha hb _ HC.out).mono ?_
            rintro e w1 ⟨rfl, b1⟩
            have B1 := Lib.hid (B0.out.trans (b1.out.mono B0.out.size))
            go_wp2_with fail
            go_ret
            exact ⟨ret_bool HR.out, B1⟩
theorem rMay_c (s : Sp) (w : World) (ha : s.lo.length ≤ 3000) (hb : s.hi.length ≤ 3000) (r : Bool) (hr : mayB s = r) :
    Calls Tryd.prog 20 #[spV s] w fun e w' => e = .returned (.bool r) ∧ Hid (Below w.heap.size w w') :=
  rMay_w (tx s.lo) (tx s.hi) s.il s.ih w (by rw [tx_size]; exact ha) (by rw [tx_size]; exact hb) r (by rw [bs_tx, bs_tx]; exact hr)
end Go.Proofs.YtbpcoiblddhnjaaDoor
