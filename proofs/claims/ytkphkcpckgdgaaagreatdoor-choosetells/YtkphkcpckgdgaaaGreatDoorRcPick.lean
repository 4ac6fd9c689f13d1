/-
  The document's Highest and Pick (newelref05).
-/
import Derived.Test.YtkphkcpckgdgaaaGreatDoorRcSort
import Derived.Test.YtkphkcpckgdgaaaGreatDoorRcParse
import Derived.Test.YtkphkcpckgdgaaaGreatDoorRcHolds
import Derived.Test.YtkphkcpckgdgaaaGreatDoorWa
import Derived.Test.YtkphkcpckgdgaaaGreatDoorCsHeld
namespace Go.Proofs.YtkphkcpckgdgaaaGreatDoor
open Nwl
open Go.RowKit Go.Maps
set_option linter.unusedVariables false

set_option maxRecDepth 100000 in
set_option maxHeartbeats 4000000 in
theorem rHighest_c (A : Option Addr) (n c : Nat) (l : List (List UInt8)) (A2 : Option Addr) (n2 c2 : Nat) (r : List Sp) (w : World) (B : Nat) (hB : B ≤ w.heap.size) (h : StrR B w A n l) (h2 : SpR B w A2 n2 r) (hn : n ≤ 1000) (hl : ∀ x ∈ l, x.length ≤ 3000) (hn2 : n2 ≤ 100000) (hr : ∀ s ∈ r, s.lo.length ≤ 3000 ∧ s.hi.length ≤ 3000) (x : List UInt8) (b : Bool) (hF : highR l r = (x, b)) :
    Calls Tryz.prog 8 #[.slice A n c, .slice A2 n2 c2] w fun e w' => e = .returned (.tuple #[.string (tx x), .bool b]) ∧ Hid (Below w.heap.size w w') := by
  have H := Lib.hid h
  have HR := Lib.hid h2
  have HL := Lib.hid hl
  have HS := Lib.hid hr
  have HF := Lib.hid hF
  have HN : Hid (n = l.length) := Lib.hid h.1
  have HBB := Lib.hid hB
  obtain ⟨i0, hi, hz0, hz1, hz2⟩ := info_parts2 info_st
  clear h h2 hl hr hF hB
  go_enter Tryz.func8, Tryz.ntmps8
  go_wp2_with fail
  go_loopw [6, 7] (fun rv iv wr => ∃ (i : Nat) (Ao : Option Addr) (no co : Nat), i ≤ n ∧ no ≤ i ∧ rv = .slice Ao no co ∧ iv = .int .i64 i ∧ Hid (StrO w.heap.size wr Ao no co (heldL r (l.take i)) ∧ Below w.heap.size w wr)) (fun _ iv _ => n - (intOf iv).toNat)
  case atStart => exact ⟨0, none, 0, 0, by omega, by omega, rfl, rfl, Lib.hid ⟨StrO.nil _ _, Below.refl _ _⟩⟩
  case round =>
    obtain ⟨i, Ao, no, co, hin, hno, rfl, rfl, hh⟩ := hrel
    by_cases hlt : i < n
    · have hil : i < l.length := by have := HN.out; omega
      obtain ⟨g, o, rfl, hg, hc⟩ := H.out.2 i hil
      obtain ⟨y, hy⟩ : ∃ y, l[i] = y := ⟨_, rfl⟩
      rw [hy] at hc
      have HB := Lib.hid hh.out.2
      have HROW := Lib.hid hh.out.1
      have hc' : wr.cell? ⟨g, o + i, none⟩ = some (.string (tx y)) := (HB.out.cell (p := ⟨g, o + i, none⟩) (Nat.lt_of_lt_of_le hg HBB.out)).trans hc
      have hys : (tx y).size ≤ 3000 := by rw [tx_size, ← hy]; exact HL.out _ (List.getElem_mem hil)
      have R1 := Lib.hid (HR.out.below (HB.out.mono HBB.out))
      have HB1 : Hid (B ≤ wr.heap.size) := Lib.hid (Nat.le_trans HBB.out HB.out.size)
      obtain ⟨d, hd⟩ : ∃ d, holdsB r y = d := ⟨_, rfl⟩
      have HD : Hid (holdsB r (bs (tx y)) = d) := Lib.hid (by rw [bs_tx]; exact hd)
      have hst := held_step (r := r) hil
      rw [hy, hd] at hst
      have HST := Lib.hid hst
      clear hh hy hst hd hil
      cases d with
      | false =>
        go_wp2_with fail
        refine (rHolds_c A2 n2 c2 r (tx y) _ B HB1.out R1.out hn2 HS.out hys false HD.out).mono ?_
        rintro e w2 ⟨rfl, b2⟩
        have HN2 : Hid (StrO w.heap.size w2 Ao no co (heldL r (l.take (i + 1))) ∧ Below w.heap.size w w2) := Lib.hid ⟨by rw [HST.out]; exact HROW.out.below b2.out, HB.out.trans (b2.out.mono HB.out.size)⟩
        go_wp2_with fail
        go_roundw
        case rel => exact ⟨i + 1, Ao, no, co, by omega, by omega, rfl, by go_num, HN2⟩
        case measure => simp [intOf]; omega
      | true =>
        go_wp2_with fail
        refine (rHolds_c A2 n2 c2 r (tx y) _ B HB1.out R1.out hn2 HS.out hys true HD.out).mono ?_
        rintro e w2 ⟨rfl, b2⟩
        have HB2 := Lib.hid (HB.out.trans (b2.out.mono HB.out.size))
        have R2 := Lib.hid (HROW.out.below b2.out)
        have hc2 : w2.cell? ⟨g, o + i, none⟩ = some (.string (tx y)) := (b2.out.cell (p := ⟨g, o + i, none⟩) (by have := HB.out.size; have := HBB.out; show g < wr.heap.size; omega)).trans hc'
        have R5 := Lib.hid (R2.out.below ((Below.refl _ _).alloc (Nat.le_refl _) (.cells #[.string (tx y)] 9)))
        have HCS := Lib.hid R5.out.2
        have HNEWS := Lib.hid (cells_one_new w2 (.string (tx y)) 9)
        have hws := HB2.out.size
        clear hc'
        go_wp2_with (at_builtin; go_must (refine wpList_append_own_at _ rfl _ _ 22 rfl w.heap.size 9 i0 _ 1 16 Tryz.underlying22 hi hz0 hz1 hz2 rfl (by decide) _ no (List.map (fun x => .string (tx x)) (heldL r (l.take i))) rfl HCS.out ⟨w2.heap.size, 0, none⟩ 1 1 [.string (tx y)] rfl rfl HNEWS.out (str_one [y]) (by unfold maxLen; omega) (by omega) (by simp; omega) ?_); intro v' w5 hown5 hgrow5 _ _; obtain ⟨A', c', rfl⟩ := own_form hown5)
        have HN2 : Hid (StrO w.heap.size w5 A' (no + 1) c' (heldL r (l.take (i + 1))) ∧ Below w.heap.size w w5) := Lib.hid ⟨⟨by rw [HST.out, if_pos trivial, List.length_append, ← R5.out.1]; rfl, by rw [HST.out, if_pos trivial, List.map_append]; exact hown5⟩, (HB2.out.alloc hws _).grown hgrow5 (by simp; omega) (fun k hk => (HCS.out.lt k hk).1)⟩
        clear hown5 hgrow5
        go_roundw
        case rel => exact ⟨i + 1, A', no + 1, c', by omega, by omega, rfl, by go_num, HN2⟩
        case measure => simp [intOf]; omega
    · obtain rfl : i = n := by omega
      have HB := Lib.hid hh.out.2
      have HROW : Hid (StrO w.heap.size wr Ao no co (heldL r l)) := Lib.hid (by
        have := hh.out.1
        rw [List.take_of_length_le (by have := HN.out; omega)] at this
        exact this)
      have HLL : Hid (∀ y ∈ heldL r l, y.length ≤ 3000) := Lib.hid fun y hy => HL.out y (held_mem hy).1
      have HG : Hid ((match greatO (heldL r l) with | none => ([], false) | some v => (v, true)) = (x, b)) := Lib.hid HF.out
      clear hh
      go_wp2_with fail
      refine (rGreatest_c Ao no co (heldL r l) _ HROW.out.r (by omega) HLL.out x b HG.out).mono ?_
      rintro e w2 ⟨rfl, b2⟩
      have B2 := Lib.hid (HB.out.trans (b2.out.mono HB.out.size))
      go_wp2_with fail
      go_ret2
      exact ⟨rfl, B2⟩

set_option maxRecDepth 100000 in
set_option maxHeartbeats 2000000 in
theorem rPick_c (A : Option Addr) (n c : Nat) (l : List (List UInt8)) (s : ByteArray) (w : World) (B : Nat) (hB : B ≤ w.heap.size) (h : StrR B w A n l) (hn : n ≤ 1000) (hl : ∀ x ∈ l, x.length ≤ 3000) (hs : s.size ≤ 3000) (x : List UInt8) (k : Int) (hF : pickV l (bs s) = (x, k)) :
    Calls Tryz.prog 10 #[.slice A n c, .string s] w fun e w' => e = .returned (.tuple #[.string (tx x), .int .i64 k]) ∧ Hid (Below w.heap.size w w') := by
  obtain ⟨R, hR⟩ : ∃ R, isR (bs s) = R := ⟨_, rfl⟩
  have HR := Lib.hid hR
  have H := Lib.hid h
  have HL := Lib.hid hl
  have HBB := Lib.hid hB
  have hsm : s.size ≤ maxLen := by unfold maxLen; omega
  clear h hl hB
  cases R with
  | true =>
    obtain ⟨P, hP⟩ : ∃ P, parseL (bs s) = P := ⟨_, rfl⟩
    have HP := Lib.hid hP
    go_enter Tryz.func10, Tryz.ntmps10
    go_wp2_with fail
    refine (rIs_c s _ hsm true HR.out).mono ?_
    rintro e w1 ⟨rfl, rfl⟩
    go_wp2_with fail
    refine (rParse_c s _ hs P HP.out).mono ?_
    rintro e w1 hh
    obtain ⟨b1, h2⟩ := hh.out
    have B1 := Lib.hid b1
    clear hh b1
    rcases h2 with ⟨rfl, rfl⟩ | ⟨r, A2, n2, c2, rfl, rfl, hrow, hsh, hn2⟩
    · rw [pick_no hR hP] at hF
      injection hF with e1 e2
      subst e1 e2
      clear hP hR
      go_wp2_with fail
      go_ret2
      exact ⟨rfl, B1⟩
    · obtain ⟨⟨v, b⟩, hv⟩ : ∃ t, highR l r = t := ⟨_, rfl⟩
      rw [pick_in hR hP v b hv] at hF
      injection hF with e1 e2
      subst e1
      have HV := Lib.hid hv
      have HROW := Lib.hid hrow.r
      have HSH := Lib.hid hsh
      have H1 := Lib.hid ((H.out.below (B1.out.mono HBB.out)).mono (Nat.le_trans HBB.out B1.out.size))
      clear hP hv hrow hsh hR
      cases b with
      | false =>
        obtain rfl : (13 : Int) = k := e2
        go_wp2_with fail
        refine (rHighest_c A n c l A2 n2 c2 r _ _ (Nat.le_refl _) H1.out HROW.out hn HL.out (by omega) HSH.out v false HV.out).mono ?_
        rintro e w2 ⟨rfl, b2⟩
        have B2 := Lib.hid (B1.out.trans (b2.out.mono B1.out.size))
        have HE : Hid (v = []) := Lib.hid (by
          have := HV.out
          unfold highR at this
          split at this
          · injection this with h1 _; exact h1.symm
          · injection this with _ h1; cases h1)
        go_wp2_with fail
        go_ret2
        exact ⟨by rw [HE.out]; rfl, B2⟩
      | true =>
        obtain rfl : (0 : Int) = k := e2
        go_wp2_with fail
        refine (rHighest_c A n c l A2 n2 c2 r _ _ (Nat.le_refl _) H1.out HROW.out hn HL.out (by omega) HSH.out v true HV.out).mono ?_
        rintro e w2 ⟨rfl, b2⟩
        have B2 := Lib.hid (B1.out.trans (b2.out.mono B1.out.size))
        go_wp2_with fail
        go_ret2
        exact ⟨rfl, B2⟩
  | false =>
    rw [pick_plain hR] at hF
    obtain ⟨q, hq⟩ : ∃ q, rightV (bs s) = q := ⟨_, rfl⟩
    have HQ := Lib.hid hq
    rw [hq] at hF
    clear hR hq
    cases q with
    | false =>
      obtain ⟨rfl, rfl⟩ : [] = x ∧ (11 : Int) = k := by injection hF with e1 e2; exact ⟨e1, e2⟩
      clear hF
      go_enter Tryz.func10, Tryz.ntmps10
      go_wp2_with fail
      refine (rIs_c s _ hsm false HR.out).mono ?_
      rintro e w1 ⟨rfl, rfl⟩
      go_wp2_with fail
      refine (refRight_c s _ hsm false HQ.out).mono ?_
      rintro e w2 ⟨rfl, rfl⟩
      go_wp2_with fail
      go_ret2
      exact ⟨rfl, Lib.hid (Below.refl _ _)⟩
    | true =>
      obtain ⟨rfl, rfl⟩ : bs s = x ∧ (0 : Int) = k := by injection hF with e1 e2; exact ⟨e1, e2⟩
      clear hF
      go_enter Tryz.func10, Tryz.ntmps10
      go_wp2_with fail
      refine (rIs_c s _ hsm false HR.out).mono ?_
      rintro e w1 ⟨rfl, rfl⟩
      go_wp2_with fail
      refine (refRight_c s _ hsm true HQ.out).mono ?_
      rintro e w2 ⟨rfl, rfl⟩
      go_wp2_with fail
      go_ret2
      exact ⟨by rw [tx_bs]; rfl, Lib.hid (Below.refl _ _)⟩
end Go.Proofs.YtkphkcpckgdgaaaGreatDoor
