/-
  The contracts of package choose.
-/
import Derived.Test.YtkphkcpckgdgaaaGreatDoorOrGreat
import Derived.Test.YtkphkcpckgdgaaaGreatDoorSpParse2
import Derived.Test.YtkphkcpckgdgaaaGreatDoorSb
import Derived.Test.YtkphkcpckgdgaaaGreatDoorCsMath
import Derived.Test.YtkphkcpckgdgaaaGreatDoorGnStrO
namespace Nwl
/-- the highest, and whether there is one -/
def highR (l : List (List UInt8)) (r : List Sp) : List UInt8 × Bool := match highO l r with
  | none => ([], false)
  | some v => (v, true)
theorem pick_no {l : List (List UInt8)} {w : List UInt8} (h1 : isR w = true) (h2 : parseL w = none) : pickV l w = ([], 12) := by
  unfold pickV
  rw [if_pos h1, h2]
theorem pick_in {l : List (List UInt8)} {w : List UInt8} {r : List Sp} (h1 : isR w = true) (h2 : parseL w = some r) (x : List UInt8) (b : Bool) (h3 : highR l r = (x, b)) : pickV l w = (x, if b then 0 else 13) := by
  unfold pickV
  rw [if_pos h1, h2]
  unfold highR at h3
  dsimp only
  cases h : highO l r with
  | none => rw [h] at h3; injection h3 with h4 h5; subst h4 h5; rfl
  | some v => rw [h] at h3; injection h3 with h4 h5; subst h4 h5; rfl
theorem pick_plain {l : List (List UInt8)} {w : List UInt8} (h1 : isR w = false) : pickV l w = if rightV w then (w, 0) else ([], 11) := by
  unfold pickV
  rw [h1]; rfl
end Nwl
namespace Go.Proofs.YtkphkcpckgdgaaaGreatDoor
open Nwl
open Go.RowKit Go.Maps
set_option linter.unusedVariables false

set_option maxRecDepth 100000 in
set_option maxHeartbeats 4000000 in
theorem held_c (A : Option Addr) (n c : Nat) (l : List (List UInt8)) (A2 : Option Addr) (n2 c2 : Nat) (r : List Sp) (w : World) (B : Nat) (hB : B ≤ w.heap.size) (h : StrR B w A n l) (h2 : SpR B w A2 n2 r) (hn : n ≤ 1000) (hl : ∀ x ∈ l, x.length ≤ 1000) (hn2 : n2 ≤ 100000) (hr : SpShort r) (F : List (List UInt8)) (hF : heldL r l = F) :
    Calls Tryz.prog 13 #[.slice A n c, .slice A2 n2 c2] w fun e w' => ∃ A' n' c', e = .returned (.slice A' n' c') ∧ n' ≤ n ∧ Hid (StrO w.heap.size w' A' n' c' F ∧ Below w.heap.size w w') := by
  have H := Lib.hid h
  have HR := Lib.hid h2
  have HL := Lib.hid hl
  have HS := Lib.hid hr
  have HF := Lib.hid hF
  have HN : Hid (n = l.length) := Lib.hid h.1
  have HBB := Lib.hid hB
  obtain ⟨i0, hi, hz0, hz1, hz2⟩ := info_parts2 info_st
  clear h h2 hl hr hF hB
  go_enter Tryz.func13, Tryz.ntmps13
  go_wp2_with fail
  refine wp_scope_again 0 (fun a' w' => ∃ (i : Nat) (Ao : Option Addr) (no co : Nat) (u7 u8 u9 u10 u11 u12 u13 u14 u15 u16 u17 u18 u19 u20 u21 u22 u23 u24 u25 u26 : Value), a' = { tmps := #[.slice A n c, .slice A2 n2 c2, undef, undef, .slice none 0 0, .slice Ao no co, .int .i64 i, u7, u8, u9, u10, u11, u12, u13, u14, u15, u16, u17, u18, u19, u20, u21, u22, u23, u24, u25, u26], defers := [] } ∧ i ≤ n ∧ no ≤ i ∧ Hid (StrO w.heap.size w' Ao no co (heldL r (l.take i)) ∧ Below w.heap.size w w')) (fun a' _ => n - (intOf (a'.tmps.getD 6 undef)).toNat) rfl ?_ ?_
  · rintro a' w1 ⟨i, Ao, no, co, u7, u8, u9, u10, u11, u12, u13, u14, u15, u16, u17, u18, u19, u20, u21, u22, u23, u24, u25, u26, rfl, hin, hno, hh⟩
    by_cases hend : i = n
    · subst hend
      have hfin : Hid (StrO w.heap.size w1 Ao no co F ∧ Below w.heap.size w w1) := Lib.hid (by
        have := hh.out
        rw [List.take_of_length_le (by have := HN.out; omega), HF.out] at this
        exact this)
      clear hh
      go_wp2_with fail
      simp only [Exit.jump]
      go_ret
      exact ⟨Ao, no, co, rfl, hno, hfin⟩
    · have hlt : i < n := by omega
      have hil : i < l.length := by have := HN.out; omega
      obtain ⟨g, o, rfl, hg, hc⟩ := H.out.2 i hil
      obtain ⟨x, hx⟩ : ∃ x, l[i] = x := ⟨_, rfl⟩
      rw [hx] at hc
      have HB := Lib.hid hh.out.2
      have HROW := Lib.hid hh.out.1
      have hc' : w1.cell? ⟨g, o + i, none⟩ = some (.string (tx x)) := (HB.out.cell (p := ⟨g, o + i, none⟩) (Nat.lt_of_lt_of_le hg HBB.out)).trans hc
      have hxs : (tx x).size ≤ 1000 := by rw [tx_size, ← hx]; exact HL.out _ (List.getElem_mem hil)
      have R1 := Lib.hid (HR.out.below (HB.out.mono HBB.out))
      have HB1 : Hid (B ≤ w1.heap.size) := Lib.hid (Nat.le_trans HBB.out HB.out.size)
      obtain ⟨d, hd⟩ : ∃ d, holdsB r x = d := ⟨_, rfl⟩
      have HD : Hid (holdsB r (bs (tx x)) = d) := Lib.hid (by rw [bs_tx]; exact hd)
      have hst := held_step (r := r) hil
      rw [hx, hd] at hst
      have HST := Lib.hid hst
      have hne : ((i : Int) == (n : Int)) = false := by rw [beq_eq_false_iff_ne]; omega
      clear hh hx hst hd hil hend
      cases d with
      | false =>
        go_wp2_with fail
        refine (Holds_c A2 n2 c2 r (tx x) _ B HB1.out R1.out hn2 HS.out hxs false HD.out).mono ?_
        rintro e w2 ⟨rfl, b2⟩
        have HN2 : Hid (StrO w.heap.size w2 Ao no co (heldL r (l.take (i + 1))) ∧ Below w.heap.size w w2) := Lib.hid ⟨by rw [HST.out]; exact HROW.out.below b2.out, HB.out.trans (b2.out.mono HB.out.size)⟩
        go_wp2_with fail
        go_step3
        refine ⟨rfl, ⟨i + 1, Ao, no, co, _, _, _, _, _, _, _, _, _, _, _, _, _, _, _, _, _, _, _, _, rfl, by omega, by omega, HN2⟩, ?_⟩
        simp [intOf]
        omega
      | true =>
        go_wp2_with fail
        refine (Holds_c A2 n2 c2 r (tx x) _ B HB1.out R1.out hn2 HS.out hxs true HD.out).mono ?_
        rintro e w2 ⟨rfl, b2⟩
        have HB2 := Lib.hid (HB.out.trans (b2.out.mono HB.out.size))
        have R2 := Lib.hid (HROW.out.below b2.out)
        have hc2 : w2.cell? ⟨g, o + i, none⟩ = some (.string (tx x)) := (b2.out.cell (p := ⟨g, o + i, none⟩) (by have := HB.out.size; have := HBB.out; show g < w1.heap.size; omega)).trans hc'
        have R5 := Lib.hid (R2.out.below ((Below.refl _ _).alloc (Nat.le_refl _) (.cells #[.string (tx x)] 9)))
        have HCS := Lib.hid R5.out.2
        have HNEWS := Lib.hid (cells_one_new w2 (.string (tx x)) 9)
        have hws := HB2.out.size
        clear hc'
        go_wp2_with (at_builtin; go_must (refine wpList_append_own_at _ rfl _ _ 22 rfl w.heap.size 9 i0 _ 1 16 Tryz.underlying22 hi hz0 hz1 hz2 rfl (by decide) _ no (List.map (fun x => .string (tx x)) (heldL r (l.take i))) rfl HCS.out ⟨w2.heap.size, 0, none⟩ 1 1 [.string (tx x)] rfl rfl HNEWS.out (str_one [x]) (by unfold maxLen; omega) (by omega) (by simp; omega) ?_); intro v' w5 hown5 hgrow5 _ _; obtain ⟨A', c', rfl⟩ := own_form hown5)
        have HN2 : Hid (StrO w.heap.size w5 A' (no + 1) c' (heldL r (l.take (i + 1))) ∧ Below w.heap.size w w5) := Lib.hid ⟨⟨by rw [HST.out, if_pos trivial, List.length_append, ← R5.out.1]; rfl, by rw [HST.out, if_pos trivial, List.map_append]; exact hown5⟩, (HB2.out.alloc hws _).grown hgrow5 (by simp; omega) (fun k hk => (HCS.out.lt k hk).1)⟩
        clear hown5 hgrow5
        go_step3
        refine ⟨rfl, ⟨i + 1, A', no + 1, c', _, _, _, _, _, _, _, _, _, _, _, _, _, _, _, _, _, _, _, _, rfl, by omega, by omega, HN2⟩, ?_⟩
        simp [intOf]
        omega
  · intro hpass
    go_wp2_with fail
    go_step3
    rename_i hK
    exact hK _ _ (hpass.out _ _ ⟨0, none, 0, 0, _, _, _, _, _, _, _, _, _, _, _, _, _, _, _, _, _, _, _, _, rfl, by omega, by omega, Lib.hid ⟨StrO.nil _ _, Below.refl _ _⟩⟩)

set_option maxRecDepth 100000 in
set_option maxHeartbeats 1000000 in
theorem Highest_c (A : Option Addr) (n c : Nat) (l : List (List UInt8)) (A2 : Option Addr) (n2 c2 : Nat) (r : List Sp) (w : World) (B : Nat) (hB : B ≤ w.heap.size) (h : StrR B w A n l) (h2 : SpR B w A2 n2 r) (hn : n ≤ 1000) (hl : ∀ x ∈ l, x.length ≤ 1000) (hn2 : n2 ≤ 100000) (hr : SpShort r) (x : List UInt8) (b : Bool) (hF : highR l r = (x, b)) :
    Calls Tryz.prog 7 #[.slice A n c, .slice A2 n2 c2] w fun e w' => e = .returned (.tuple #[.string (tx x), .bool b]) ∧ Hid (Below w.heap.size w w') := by
  obtain ⟨F, hq⟩ : ∃ F, heldL r l = F := ⟨_, rfl⟩
  have HQ := Lib.hid hq
  have HL : Hid (∀ y ∈ F, y.length ≤ 1000) := Lib.hid fun y hy => hl y (held_mem (r := r) (l := l) (by rw [hq]; exact hy)).1
  unfold highR highO at hF
  rw [hq] at hF
  have H := Lib.hid h
  have H2 := Lib.hid h2
  have HLL := Lib.hid hl
  have HBB := Lib.hid hB
  have HS := Lib.hid hr
  clear h h2 hl hr hB hq
  go_enter Tryz.func7, Tryz.ntmps7
  go_wp2_with fail
  refine (held_c A n c l A2 n2 c2 r _ B HBB.out H.out H2.out hn HLL.out hn2 HS.out F HQ.out).mono ?_
  rintro e w1 ⟨A', n', c', rfl, hn', hh⟩
  have HB1 := Lib.hid hh.out.2
  have HROW := Lib.hid hh.out.1.r
  have hlen := hh.out.1.1
  clear hh
  cases F with
  | nil =>
    obtain rfl : n' = 0 := hlen
    injection hF with e1 e2
    subst e1 e2
    go_wp2_with fail
    refine (Greatest_none A' c' _).mono ?_
    rintro e w2 ⟨rfl, rfl⟩
    go_wp2_with fail
    go_ret2
    exact ⟨rfl, HB1⟩
  | cons y t =>
    injection hF with e1 e2
    subst e2
    have HG : Hid (greatV y t = x) := Lib.hid e1
    clear e1 hlen
    go_wp2_with fail
    refine (Greatest_c A' n' c' y t _ HROW.out (by omega) HL.out x HG.out).mono ?_
    rintro e w2 ⟨rfl, b2⟩
    have HB2 := Lib.hid (HB1.out.trans (b2.out.mono HB1.out.size))
    go_wp2_with fail
    go_ret2
    exact ⟨rfl, HB2⟩

set_option maxRecDepth 100000 in
set_option maxHeartbeats 1000000 in
theorem pickWithin_c (A : Option Addr) (n c : Nat) (l : List (List UInt8)) (s : ByteArray) (w : World) (B : Nat) (hB : B ≤ w.heap.size) (h : StrR B w A n l) (hn : n ≤ 1000) (hl : ∀ x ∈ l, x.length ≤ 1000) (hs : s.size ≤ 1000) (hR : isR (bs s) = true) (x : List UInt8) (k : Int) (hF : pickV l (bs s) = (x, k)) :
    Calls Tryz.prog 17 #[.slice A n c, .string s] w fun e w' => e = .returned (.tuple #[.string (tx x), .int .i64 k]) ∧ Hid (Below w.heap.size w w') := by
  obtain ⟨P, hP⟩ : ∃ P, parseL (bs s) = P := ⟨_, rfl⟩
  have HP := Lib.hid hP
  have H := Lib.hid h
  have HL := Lib.hid hl
  have HBB := Lib.hid hB
  clear h hl hB
  go_enter Tryz.func17, Tryz.ntmps17
  go_wp2_with fail
  refine (Parse_c s _ hs P HP.out).mono ?_
  rintro e w1 hh
  obtain ⟨b1, h2⟩ := hh.out
  have B1 := Lib.hid b1
  clear hh b1
  rcases h2 with ⟨rfl, rfl⟩ | ⟨r, A2, n2, c2, rfl, rfl, hrow, hsh, hn2⟩
  · rw [pick_no hR hP] at hF
    injection hF with e1 e2
    subst e1 e2
    clear hP
    go_wp2_with fail
    go_ret2
    exact ⟨rfl, B1⟩
  · obtain ⟨⟨v, b⟩, hv⟩ : ∃ t, highR l r = t := ⟨_, rfl⟩
    rw [pick_in hR hP v b hv] at hF
    injection hF with e1 e2
    subst e1
    have HV := Lib.hid hv
    have HROW := Lib.hid hrow.r
    have HSH := Lib.hid hsh
    have H1 := Lib.hid ((H.out.below (B1.out.mono HBB.out)).mono (Nat.le_trans HBB.out B1.out.size))
    clear hP hv hrow hsh
    cases b with
    | false =>
      obtain rfl : (13 : Int) = k := e2
      go_wp2_with fail
      refine (Highest_c A n c l A2 n2 c2 r _ _ (Nat.le_refl _) H1.out HROW.out hn HL.out (by omega) HSH.out v false HV.out).mono ?_
      rintro e w2 ⟨rfl, b2⟩
      have B2 := Lib.hid (B1.out.trans (b2.out.mono B1.out.size))
      have HE : Hid (v = []) := Lib.hid (by
        have := HV.out
        unfold highR at this
        split at this
        · injection this with h1 _; exact h1.symm
        · injection this with _ h1; cases h1)
      go_wp2_with fail
      go_ret2
      exact ⟨by rw [HE.out]; rfl, B2⟩
    | true =>
      obtain rfl : (0 : Int) = k := e2
      go_wp2_with fail
      refine (Highest_c A n c l A2 n2 c2 r _ _ (Nat.le_refl _) H1.out HROW.out hn HL.out (by omega) HSH.out v true HV.out).mono ?_
      rintro e w2 ⟨rfl, b2⟩
      have B2 := Lib.hid (B1.out.trans (b2.out.mono B1.out.size))
      go_wp2_with fail
      go_ret2
      exact ⟨rfl, B2⟩

set_option maxRecDepth 100000 in
set_option maxHeartbeats 1000000 in
theorem Pick_c (A : Option Addr) (n c : Nat) (l : List (List UInt8)) (s : ByteArray) (w : World) (B : Nat) (hB : B ≤ w.heap.size) (h : StrR B w A n l) (hn : n ≤ 1000) (hl : ∀ x ∈ l, x.length ≤ 1000) (hs : s.size ≤ 1000) (x : List UInt8) (k : Int) (hF : pickV l (bs s) = (x, k)) :
    Calls Tryz.prog 9 #[.slice A n c, .string s] w fun e w' => e = .returned (.tuple #[.string (tx x), .int .i64 k]) ∧ Hid (Below w.heap.size w w') := by
  obtain ⟨R, hR⟩ : ∃ R, isR (bs s) = R := ⟨_, rfl⟩
  have HR := Lib.hid hR
  have H := Lib.hid h
  have HL := Lib.hid hl
  have HBB := Lib.hid hB
  have HF := Lib.hid hF
  clear h hl hB
  cases R with
  | true =>
    clear hR hF
    go_enter Tryz.func9, Tryz.ntmps9
    go_wp2_with fail
    refine (Is_c s _ true HR.out).mono ?_
    rintro e w1 ⟨rfl, rfl⟩
    go_wp2_with fail
    refine (pickWithin_c A n c l s _ B HBB.out H.out hn HL.out hs HR.out x k HF.out).mono ?_
    rintro e w2 ⟨rfl, b2⟩
    go_wp2_with fail
    go_ret2
    exact ⟨rfl, b2⟩
  | false =>
    rw [pick_plain hR] at hF
    obtain ⟨q, hq⟩ : ∃ q, rightV (bs s) = q := ⟨_, rfl⟩
    have HQ := Lib.hid hq
    rw [hq] at hF
    clear hR hq
    cases q with
    | false =>
      obtain ⟨rfl, rfl⟩ : [] = x ∧ (11 : Int) = k := by injection hF with e1 e2; exact ⟨e1, e2⟩
      clear hF
      go_enter Tryz.func9, Tryz.ntmps9
      go_wp2_with fail
      refine (Is_c s _ false HR.out).mono ?_
      rintro e w1 ⟨rfl, rfl⟩
      go_wp2_with fail
      refine (Right_b s _ (by unfold maxLen; omega) false HQ.out).mono ?_
      rintro e w2 ⟨rfl, rfl⟩
      go_wp2_with fail
      go_ret2
      exact ⟨rfl, Lib.hid (Below.refl _ _)⟩
    | true =>
      obtain ⟨rfl, rfl⟩ : bs s = x ∧ (0 : Int) = k := by injection hF with e1 e2; exact ⟨e1, e2⟩
      clear hF
      go_enter Tryz.func9, Tryz.ntmps9
      go_wp2_with fail
      refine (Is_c s _ false HR.out).mono ?_
      rintro e w1 ⟨rfl, rfl⟩
      go_wp2_with fail
      refine (Right_b s _ (by unfold maxLen; omega) true HQ.out).mono ?_
      rintro e w2 ⟨rfl, rfl⟩
      go_wp2_with fail
      go_ret2
      exact ⟨by rw [tx_bs]; rfl, Lib.hid (Below.refl _ _)⟩
end Go.Proofs.YtkphkcpckgdgaaaGreatDoor
