/-
  The document's Holds (newelref05).
-/
import Derived.Test.YtkphkcpckgdgaaaGreatDoorRcA
import Derived.Test.YtkphkcpckgdgaaaGreatDoorSb
import Derived.Deep.CutRange
namespace Nwl
open Go
/-- the two tests, as the document puts them -/
theorem low_way (lo v : List UInt8) (il b : Bool) (h : lowB (lo, il) v = b) : (lo = [] ∧ b = true) ∨ (lo ≠ [] ∧ (cmpV lo v = -1 ∧ b = true ∨ cmpV lo v = 0 ∧ il = true ∧ b = true ∨ cmpV lo v = 0 ∧ il = false ∧ b = false ∨ cmpV lo v = 1 ∧ b = false)) := by
  unfold lowB at h
  dsimp only at h
  by_cases h0 : lo = []
  · subst h0; exact .inl ⟨rfl, by rw [← h]; rfl⟩
  · refine .inr ⟨h0, ?_⟩
    rw [nil_beq _ h0, Bool.false_or] at h
    unfold aboveB at h
    have ha := ord_v.anti lo v
    rcases ord_v.sgn lo v with hs | hs | hs
    · rw [ha, hs] at h; exact .inl ⟨hs, by rw [← h]; rfl⟩
    · rw [ha, hs] at h
      cases il with
      | true => exact .inr (.inl ⟨hs, rfl, by rw [← h]; rfl⟩)
      | false => exact .inr (.inr (.inl ⟨hs, rfl, by rw [← h]; rfl⟩))
    · rw [ha, hs] at h; exact .inr (.inr (.inr ⟨hs, by rw [← h]; rfl⟩))
theorem high_way (hi v : List UInt8) (ih b : Bool) (h : highB (hi, ih) v = b) : (hi = [] ∧ b = true) ∨ (hi ≠ [] ∧ (cmpV v hi = -1 ∧ b = true ∨ cmpV v hi = 0 ∧ ih = true ∧ b = true ∨ cmpV v hi = 0 ∧ ih = false ∧ b = false ∨ cmpV v hi = 1 ∧ b = false)) := by
  unfold highB at h
  dsimp only at h
  by_cases h0 : hi = []
  · subst h0; exact .inl ⟨rfl, by rw [← h]; rfl⟩
  · refine .inr ⟨h0, ?_⟩
    rw [nil_beq _ h0, Bool.false_or] at h
    unfold aboveB at h
    have ha := ord_v.anti v hi
    rcases ord_v.sgn v hi with hs | hs | hs
    · rw [ha, hs] at h; exact .inl ⟨hs, by rw [← h]; rfl⟩
    · rw [ha, hs] at h
      cases ih with
      | true => exact .inr (.inl ⟨hs, rfl, by rw [← h]; rfl⟩)
      | false => exact .inr (.inr (.inl ⟨hs, rfl, by rw [← h]; rfl⟩))
    · rw [ha, hs] at h; exact .inr (.inr (.inr ⟨hs, by rw [← h]; rfl⟩))
end Nwl
namespace Go.Proofs.YtkphkcpckgdgaaaGreatDoor
open Nwl
open Go.RowKit Go.Maps
set_option linter.unusedVariables false

theorem nil_of_bs {a : ByteArray} (h : bs a = []) : a.toList.isEmpty = true := by rw [toList_bs, h]; rfl
theorem ne_of_bs {a : ByteArray} (h : bs a ≠ []) : a.toList.isEmpty = false := by
  rw [toList_bs]
  cases hb : bs a with
  | nil => exact absurd hb h
  | cons => rfl
/-- the span that is looked at, in its box -/
def HBx (w W : World) (b : Nat) (a1 a2 : ByteArray) (p q : Bool) : Prop := Blk W b 27 #[.string a1, .string a2, .bool p, .bool q] ∧ Below w.heap.size w W
theorem HBx.rd {w W : World} {b : Nat} {a1 a2 : ByteArray} {p q : Bool} (h : Hid (HBx w W b a1 a2 p q)) : W.cell? ⟨b, 0, none⟩ = some (.string a1) ∧ W.cell? ⟨b, 1, none⟩ = some (.string a2) ∧ W.cell? ⟨b, 2, none⟩ = some (.bool p) ∧ W.cell? ⟨b, 3, none⟩ = some (.bool q) := ⟨h.out.1.cell 0, h.out.1.cell 1, h.out.1.cell 2, h.out.1.cell 3⟩
theorem HBx.step {w W W' : World} {b : Nat} {a1 a2 : ByteArray} {p q : Bool} (h : Hid (HBx w W b a1 a2 p q)) (hb : Hid (Below W.heap.size W W')) : Hid (HBx w W' b a1 a2 p q) := Lib.hid ⟨h.out.1.below hb.out, h.out.2.trans (hb.out.mono h.out.2.size)⟩

set_option maxRecDepth 100000 in
set_option maxHeartbeats 8000000 in
theorem rHolds_c (A : Option Addr) (n c : Nat) (l : List Sp) (v : ByteArray) (w : World) (B : Nat) (hB : B ≤ w.heap.size) (h : SpR B w A n l) (hn : n ≤ 100000) (hl : ∀ s ∈ l, s.lo.length ≤ 3000 ∧ s.hi.length ≤ 3000) (hv : v.size ≤ 3000) (r : Bool) (hr : holdsB l (bs v) = r) :
    Calls Tryz.prog 14 #[.slice A n c, .string v] w fun e w' => e = .returned (.bool r) ∧ Hid (Below w.heap.size w w') := by
  have H := Lib.hid h
  have HL := Lib.hid hl
  have HR := Lib.hid hr
  have HN : Hid (n = l.length) := Lib.hid h.1
  have HBB := Lib.hid hB
  clear h hl hr hB
  go_enter Tryz.func14, Tryz.ntmps14
  go_wp2_with fail
  go_loopw [5] (fun iv wr => ∃ k : Nat, k ≤ n ∧ iv = .int .i64 k ∧ Hid (Below w.heap.size w wr ∧ holdsB (l.take k) (bs v) = false)) (fun iv _ => n - (intOf iv).toNat)
  case atStart => exact ⟨0, by omega, rfl, Lib.hid ⟨Below.refl _ _, rfl⟩⟩
  case round =>
    obtain ⟨k, hk, rfl, hh⟩ := hrel
    by_cases hlt : k < n
    · have hkl : k < l.length := by have := HN.out; omega
      obtain ⟨g, o, rfl, hg, c0, c1, c2, c3⟩ := (H.out.below (hh.out.1.mono HBB.out)).2 k hkl
      obtain ⟨x, hx⟩ : ∃ x, l[k] = x := ⟨_, rfl⟩
      rw [hx] at c0 c1 c2 c3
      have hsx := HL.out x (by rw [← hx]; exact List.getElem_mem hkl)
      obtain ⟨lw, hlw⟩ : ∃ b, lowB (x.lo, x.il) (bs v) = b := ⟨_, rfl⟩
      obtain ⟨hw, hhw⟩ : ∃ b, highB (x.hi, x.ih) (bs v) = b := ⟨_, rfl⟩
      have hwi : withinB x (bs v) = (lw && hw) := by rw [within_eq, hlw, hhw]
      have HYES : Hid ((lw && hw) = true → true = r) := Lib.hid fun e => by rw [← HR.out]; exact (holds_hit hkl (by rw [hx, hwi]; exact e)).symm
      have HNO : Hid ((lw && hw) = false → holdsB (l.take (k + 1)) (bs v) = false) := Lib.hid fun e => holds_step hkl hh.out.2 (by rw [hx, hwi]; exact e)
      obtain ⟨a1, ha1⟩ : ∃ a, tx x.lo = a := ⟨_, rfl⟩
      obtain ⟨a2, ha2⟩ : ∃ a, tx x.hi = a := ⟨_, rfl⟩
      have e1 : x.lo = bs a1 := by rw [← ha1, bs_tx]
      have e2 : x.hi = bs a2 := by rw [← ha2, bs_tx]
      have z1 : a1.size ≤ 3000 := by rw [← ha1, tx_size]; exact hsx.1
      have z2 : a2.size ≤ 3000 := by rw [← ha2, tx_size]; exact hsx.2
      rw [ha1] at c0
      rw [ha2] at c1
      rw [e1] at hlw
      rw [e2] at hhw
      generalize x.il = p at *
      generalize x.ih = q at *
      obtain ⟨t1, ht1⟩ : ∃ t, a1.toList.isEmpty = t := ⟨_, rfl⟩
      obtain ⟨t2, ht2⟩ : ∃ t, a2.toList.isEmpty = t := ⟨_, rfl⟩
      have HT1 := Lib.hid ht1
      have HT2 := Lib.hid ht2
      have LO := Lib.hid (low_way _ _ _ _ hlw)
      have HI := Lib.hid (high_way _ _ _ _ hhw)
      have HB := Lib.hid hh.out.1
      have X0 : Hid (HBx w (wr.alloc (.cells #[.string a1, .string a2, .bool p, .bool q] 27)) wr.heap.size a1 a2 p q) := Lib.hid ⟨Blk.new _ _ _, HB.out.alloc HB.out.size _⟩
      clear hh hx hsx hwi ha1 ha2 e1 e2 hlw hhw hkl hg
      go_upto_if 23 with fail
      go_cut [7, 9] from 11 to 58 (fun s7 _ wx => s7 = .bool lw ∧ Hid (HBx w wx wr.heap.size a1 a2 p q))
      case first =>
        obtain ⟨k0, k1, k2, k3⟩ := HBx.rd X0
        rcases LO.out with ⟨e, rfl⟩ | ⟨e, hc⟩
        · obtain rfl : true = t1 := by rw [← HT1.out]; exact (nil_of_bs e).symm
          clear e
          go_wp2_with fail
          go_meet
          exact ⟨rfl, X0⟩
        · obtain rfl : false = t1 := by rw [← HT1.out]; exact (ne_of_bs e).symm
          rcases hc with ⟨hc, rfl⟩ | ⟨hc, rfl, rfl⟩ | ⟨hc, rfl, rfl⟩ | ⟨hc, rfl⟩
          all_goals
            have HC := Lib.hid hc
            clear hc e
            go_wp2_with fail
            refine (rCompare_c a1 v _ z1 hv _ HC.out).mono ?_
            rintro e w2 ⟨rfl, b2⟩
            have X1 := HBx.step X0 b2
            obtain ⟨k0, k1, k2, k3⟩ := HBx.rd X1
            go_wp2_with fail
            go_meet
            exact ⟨rfl, X1⟩
      case rest =>
      obtain ⟨rfl, X1⟩ := hcut
      clear X0
      obtain ⟨k0, k1, k2, k3⟩ := HBx.rd X1
      go_upto_if 40 with fail
      go_cut [8, 10] from 11 to 58 (fun s8 _ wx => s8 = .bool hw ∧ Hid (HBx w wx wr.heap.size a1 a2 p q))
      case first =>
        rcases HI.out with ⟨e, rfl⟩ | ⟨e, hc⟩
        · obtain rfl : true = t2 := by rw [← HT2.out]; exact (nil_of_bs e).symm
          clear e
          go_wp2_with fail
          go_meet
          exact ⟨rfl, X1⟩
        · obtain rfl : false = t2 := by rw [← HT2.out]; exact (ne_of_bs e).symm
          rcases hc with ⟨hc, rfl⟩ | ⟨hc, rfl, rfl⟩ | ⟨hc, rfl, rfl⟩ | ⟨hc, rfl⟩
          all_goals
            have HC := Lib.hid hc
            clear hc e
            go_wp2_with fail
            refine (rCompare_c v a2 _ hv z2 _ HC.out).mono ?_
            rintro e w2 ⟨rfl, b2⟩
            have X2 := HBx.step X1 b2
            obtain ⟨k0, k1, k2, k3⟩ := HBx.rd X2
            go_wp2_with fail
            go_meet
            exact ⟨rfl, X2⟩
      case rest =>
      obtain ⟨rfl, X2⟩ := hcut
      clear X1 k0 k1 k2 k3
      cases lw with
      | false =>
        have HN2 := Lib.hid (HNO.out rfl)
        go_wp2_with fail
        go_roundw
        case rel => exact ⟨k + 1, by omega, by go_num, Lib.hid ⟨X2.out.2, HN2.out⟩⟩
        case measure => simp [intOf]; omega
      | true =>
        cases hw with
        | false =>
          have HN2 := Lib.hid (HNO.out rfl)
          go_wp2_with fail
          go_roundw
          case rel => exact ⟨k + 1, by omega, by go_num, Lib.hid ⟨X2.out.2, HN2.out⟩⟩
          case measure => simp [intOf]; omega
        | true =>
          have HF := Lib.hid (HYES.out rfl)
          go_wp2_with fail
          go_ret
          exact ⟨ret_bool HF.out, Lib.hid X2.out.2⟩
    · obtain rfl : k = n := by omega
      have HF : Hid (false = r) := Lib.hid (by
        rw [← HR.out, ← hh.out.2, List.take_of_length_le (by have := HN.out; omega)])
      have HB := Lib.hid hh.out.1
      clear hh
      go_wp2_with fail
      go_ret
      exact ⟨ret_bool HF.out, HB⟩
end Go.Proofs.YtkphkcpckgdgaaaGreatDoor
