/-
  The walk of ExprBack.
-/
import Derived.Test.YtlblhoeekcglpaaExTells
import Derived.Test.YtlblhoeekcglpaaExHas
import Derived.Deep.CutRange
namespace Nwl
def rightN (m : List UInt8) : Bool := !m.isEmpty && m.all (fun b => !barB b)
def rightTo (m : List UInt8) (i : Nat) : Bool := !m.isEmpty && (m.take i).all (fun b => !barB b)
theorem rightTo_succ {m : List UInt8} {i : Nat} (h : i < m.length) : rightTo m (i + 1) = (rightTo m i && !barB m[i]) := by
  unfold rightTo
  rw [← List.take_append_getElem h, List.all_append, Bool.and_assoc]
  congr 2
  simp
theorem rightTo_all (m : List UInt8) : rightTo m m.length = rightN m := by unfold rightTo rightN; rw [List.take_length]
theorem told_join {l : List UInt8} (h : (toldE l).2 = 0) : joinE (toldE l).1 = l := by
  unfold toldE at h ⊢
  cases hs : splitX l with
  | none => rw [hs] at h; cases h
  | some ps => exact pcs_join _ l ps (Nat.le_refl _) hs
theorem told_no {l : List UInt8} (h : hasE l = false) : (toldE l).2 = 0 ∧ (toldE l).1.length ≤ 1 := by
  unfold toldE
  by_cases hl : l = []
  · subst hl; exact ⟨rfl, by decide⟩
  · rw [pcs_no h hl]; exact ⟨rfl, Nat.le_refl _⟩
theorem told_code (l : List UInt8) : (toldE l).2 = 0 ∨ (toldE l).2 = 17 := by
  unfold toldE
  cases splitX l with
  | none => exact .inr rfl
  | some ps => exact .inl rfl
theorem told_some {l : List UInt8} (hl : l ≠ []) : (toldE l).2 = 17 ∨ 0 < (toldE l).1.length := by
  unfold toldE
  cases hs : splitX l with
  | none => exact .inl rfl
  | some ps => exact .inr (pcs_pos hl hs)
theorem told_name {m : List UInt8} (h : rightN m = true) : toldE (36 :: 123 :: (m ++ [125])) = ([⟨true, m⟩], 0) := by
  unfold rightN at h
  rw [Bool.and_eq_true, Bool.not_eq_true', List.isEmpty_eq_false_iff] at h
  have h1 : splitX (36 :: 123 :: (m ++ [125])) = some [⟨true, m⟩] := by
    rw [splitX_step (by simp), cutp_name [] h.2 h.1]; rfl
  unfold toldE
  rw [h1]
end Nwl
namespace Go.Proofs.Ytlblhoeekcglpaa
open Nwl
open Go.RowKit Go.Maps
set_option linter.unusedVariables false
set_option linter.unusedSimpArgs false

set_option maxRecDepth 100000 in
set_option maxHeartbeats 8000000 in
theorem back10_small (L M : List UInt8) (w : World) (hL : L.length ≤ 500) (hM : M.length ≤ 100) (hg : GlobE w) :
    Calls Try.prog 4 #[.string (tx L), .string (tx M)] w fun e w' => e = .returned (.bool true) ∧ Below w.heap.size w w' := by
  have k1 : ¬ (500 : Int) < ((tx L).size : Int) := by rw [tx_size]; omega
  have k2 : ¬ (100 : Int) < ((tx M).size : Int) := by rw [tx_size]; omega
  have HG := Lib.hid hg
  have HL := Lib.hid hL
  have HM := Lib.hid hM
  have htl := tlx
  clear hg hL hM
  go_enter Try.func4, Try.ntmps4
  go_wp2_with fail
  refine (ESplit_c L _ (by have := HL.out; omega) HG.out).mono ?_
  intro e w1 hp
  obtain ⟨A1, n1, c1, rfl, hp1⟩ := exPost_any hp
  clear hp
  have hcode := told_code L
  have HTJ := Lib.hid (told_join (l := L))
  have HTN := Lib.hid (told_no (l := L))
  generalize hk : (toldE L).2 = k at *
  generalize hq : (toldE L).1 = q at *
  have P1 := Lib.hid hp1.out.1
  have B1 := Lib.hid hp1.out.2.1
  have HNQ : Hid (n1 = q.length) := Lib.hid hp1.out.1.1
  have N1 : Hid (n1 ≤ 500) := Lib.hid (Nat.le_trans hp1.out.2.2 HL.out)
  clear hp1 hk hq k1 k2
  go_upto_region 4 with fail
  go_cut [32] from 25 to 32 (fun v wx => v = .bool false ∧ Hid (Below w.heap.size w wx))
  case first =>
    rcases hcode with rfl | rfl
    · have HJ : Hid (joinE q = L) := Lib.hid (HTJ.out rfl)
      have HJL : Hid ((joinE q).length ≤ 140737488355328) := Lib.hid (by rw [HJ.out]; have := HL.out; omega)
      go_wp2_with fail
      refine (EJoin_c A1 n1 c1 q _ _ (Nat.le_refl _) P1.out (by have := N1.out; omega) HJL.out L HJ.out).mono ?_
      rintro e w2 ⟨rfl, b2⟩
      have B2 := Lib.hid (B1.out.trans (b2.out.mono B1.out.size))
      have hne : (L != L) = false := by simp
      go_wp2_with fail
      go_meet
      exact ⟨rfl, B2⟩
    · go_wp2_with fail
      go_meet
      exact ⟨rfl, B1⟩
  case rest =>
  rename_i w2
  obtain ⟨rfl, b2⟩ := hcut
  have B2 := Lib.hid b2.out
  clear b2 P1 B1
  go_upto_region 6 with fail
  go_cut [44] from 33 to 44 (fun v wx => v = .bool false ∧ Hid (Below w.heap.size w wx))
  case first =>
    obtain ⟨b, hb⟩ : ∃ b, hasE L = b := ⟨_, rfl⟩
    have HB := Lib.hid hb
    clear hb
    cases b with
    | true =>
      go_wp2_with fail
      refine (EHas_c L _ (by have := HL.out; omega) (HG.out.below B2.out) true HB.out).mono ?_
      rintro e w' ⟨rfl, rfl⟩
      go_wp2_with fail
      go_meet
      exact ⟨rfl, B2⟩
    | false =>
      obtain ⟨rfl, hq1⟩ := HTN.out HB.out
      have hn1 : decide ((1 : Int) < (n1 : Int)) = false := decide_eq_false (by have := HNQ.out; omega)
      clear hq1
      go_wp2_with fail
      refine (EHas_c L _ (by have := HL.out; omega) (HG.out.below B2.out) false HB.out).mono ?_
      rintro e w' ⟨rfl, rfl⟩
      go_wp2_with fail
      go_meet
      exact ⟨by first | rfl | rw [hn1], B2⟩
  case rest =>
  try clear B2
  rename_i w2
  obtain ⟨rfl, b2⟩ := hcut
  have B2 := Lib.hid b2.out
  clear b2 HTJ HTN HNQ N1 hcode
  have hsM : (tx M).size = M.length := tx_size M
  have HSM := Lib.hid hsM
  clear hsM
  obtain ⟨e0, he0⟩ : ∃ e0, M.isEmpty = e0 := ⟨_, rfl⟩
  have HE0 := Lib.hid he0
  go_wp2_with fail
  go_loopw [7, 8] (fun rv iv wx => ∃ (i : Nat) (p : Bool), i ≤ M.length ∧ iv = .int .i64 i ∧ rv = .bool p ∧ Hid (rightTo M i = p) ∧ Hid (Below w.heap.size w wx)) (fun _ iv _ => M.length - (intOf iv).toNat)
  case atStart =>
    refine ⟨0, !e0, Nat.zero_le _, rfl, rfl, Lib.hid ?_, B2⟩
    rw [rightTo, HE0.out]
    simp
  case round =>
    clear B2
    obtain ⟨i, p, hi, rfl, rfl, HP, B2⟩ := hrel
    by_cases hlt : i < M.length
    · have hiI : (i : Int) < ((tx M).size : Int) := by have := HSM.out; omega
      have his : i < (tx M).size := by have := HSM.out; omega
      have hw1 : IntKind.i64.wrap ((i : Int) + 1) = (i : Int) + 1 := by
        have := HM.out
        simp [IntKind.wrap, IntKind.bits, IntKind.signed]
        omega
      have hst := rightTo_succ hlt
      rw [HP.out] at hst
      have hbe : (tx M)[i]'his = M[i]'hlt := rfl
      rw [← hbe] at hst
      cases p with
      | false =>
        have HP2 : Hid (rightTo M (i + 1) = false) := Lib.hid (by rw [hst]; rfl)
        clear hst hbe HP
        go_wp2_with fail
        go_roundw
        case rel => exact ⟨i + 1, false, hlt, by go_num, rfl, HP2, B2⟩
        case measure => simp [intOf]; omega
      | true =>
        cases hbb : barB ((tx M)[i]'his) with
        | false =>
          obtain ⟨p1, p2, p3⟩ := bar_parts hbb
          have HP2 : Hid (rightTo M (i + 1) = true) := Lib.hid (by rw [hst, hbb]; rfl)
          clear hst hbe HP hbb
          go_wp2_with fail
          go_roundw
          case rel => exact ⟨i + 1, true, hlt, by go_num, rfl, HP2, B2⟩
          case measure => simp [intOf]; omega
        | true =>
          have HP2 : Hid (rightTo M (i + 1) = false) := Lib.hid (by rw [hst, hbb]; rfl)
          rcases bar_yes hbb with hc | hc | hc
          all_goals
            have hc2 : ((tx M)[i].toNat : Int) = _ := congrArg (fun b : UInt8 => (b.toNat : Int)) hc
            clear hst hbe HP hbb hc
            go_wp2_with fail
            go_roundw
            case rel => exact ⟨i + 1, false, hlt, by go_num, rfl, HP2, B2⟩
            case measure => simp [intOf]; omega
    · obtain rfl : i = M.length := by omega
      have hiI : ¬ ((M.length : Nat) : Int) < ((tx M).size : Int) := by have := HSM.out; omega
      have HPN : Hid (rightN M = p) := Lib.hid (by rw [← rightTo_all]; exact HP.out)
      have hadd : ((⟨#[36, 123]⟩ : ByteArray) ++ tx M) ++ ⟨#[125]⟩ = tx (36 :: 123 :: (M ++ [125])) := bs_inj (by rw [bs_append, bs_append]; rfl)
      have z1 : ¬ 9223372036854775807 < 2 + (tx M).size := by have := HSM.out; have := HM.out; omega
      have z2 : ¬ 9223372036854775807 < 2 + (tx M).size + 1 := by have := HSM.out; have := HM.out; omega
      have hlen2 : Hid ((36 :: 123 :: (M ++ [125])).length ≤ 90000) := Lib.hid (by have := HM.out; simp; omega)
      have HS2 := Lib.hid (told_some (l := 36 :: 123 :: (M ++ [125])) (by simp))
      have HN2 := Lib.hid (told_name (m := M))
      clear HP hi
      cases p with
      | false =>
        go_wp2_with fail
        refine (ESplit_c (36 :: 123 :: (M ++ [125])) _ hlen2.out (HG.out.below B2.out)).mono ?_
        intro e w3 hp
        obtain ⟨A3, n3, c3, rfl, hp3⟩ := exPost_any hp
        clear hp
        have B3 := Lib.hid (B2.out.trans (hp3.out.2.1.mono B2.out.size))
        have HN3 := Lib.hid hp3.out.1.1
        generalize (toldE (36 :: 123 :: (M ++ [125]))).2 = k3 at *
        generalize (toldE (36 :: 123 :: (M ++ [125]))).1 = q3 at *
        clear hp3 hadd
        rcases HS2.out with h17 | hpos
        · subst h17
          go_wp2_with fail
          refine (awake10_c _ (HG.out.below B3.out)).mono ?_
          rintro e w4 ⟨rfl, b4⟩
          have B4 := Lib.hid (B3.out.trans (b4.out.mono B3.out.size))
          go_wp2_with fail
          go_ret
          exact ⟨rfl, B4.out⟩
        · have hn3 : decide (0 < n3) = true := decide_eq_true (by have := HN3.out; omega)
          have hn3I : decide ((0 : Int) < (n3 : Int)) = true := decide_eq_true (by have := HN3.out; omega)
          clear hpos
          cases hk3 : ((k3 : Int) == 17) with
          | true =>
            go_wp2_with fail
            refine (awake10_c _ (HG.out.below B3.out)).mono ?_
            rintro e w4 ⟨rfl, b4⟩
            have B4 := Lib.hid (B3.out.trans (b4.out.mono B3.out.size))
            go_wp2_with fail
            go_ret
            exact ⟨rfl, B4.out⟩
          | false =>
            go_wp2_with fail
            refine (awake10_c _ (HG.out.below B3.out)).mono ?_
            rintro e w4 ⟨rfl, b4⟩
            have B4 := Lib.hid (B3.out.trans (b4.out.mono B3.out.size))
            go_wp2_with fail
            go_ret
            exact ⟨by first | rfl | rw [hn3I] | rw [hn3], B4.out⟩
      | true =>
        go_wp2_with fail
        refine (ESplit_c (36 :: 123 :: (M ++ [125])) _ hlen2.out (HG.out.below B2.out)).mono ?_
        intro e w3 hp
        obtain ⟨A3, n3, c3, rfl, hp3⟩ := exPost_any hp
        clear hp
        rw [HN2.out HPN.out] at hp3 ⊢
        have B3 := Lib.hid (B2.out.trans (hp3.out.2.1.mono B2.out.size))
        have P3 := Lib.hid hp3.out.1
        obtain rfl : n3 = 1 := hp3.out.1.1
        clear hp3 hadd
        dsimp only
        go_wp2_with fail
        refine (awake10_c _ (HG.out.below B3.out)).mono ?_
        rintro e w4 ⟨rfl, b4⟩
        have B4 := Lib.hid (B3.out.trans (b4.out.mono B3.out.size))
        have P4 := Lib.hid (P3.out.on b4.out)
        clear b4 P3
        obtain ⟨w5, hw5⟩ : ∃ w5, w4.alloc (.cells #[.bool true, .string (tx M)] 29) = w5 := ⟨_, rfl⟩
        have HN : Hid (PcR w5.heap.size w5 (some ⟨w4.heap.size, 0, none⟩) 1 [⟨true, M⟩] ∧ Below w4.heap.size w4 w5) := Lib.hid (by
          rw [← hw5]
          exact ⟨pc_new w4 ⟨true, M⟩, (Below.refl _ _).alloc (Nat.le_refl _) _⟩)
        have P5 := Lib.hid (P4.out.on HN.out.2)
        go_wp2_with fail
        refine (PPlain_c A3 (some ⟨w4.heap.size, 0, none⟩) 1 1 c3 1 [⟨true, M⟩] [⟨true, M⟩] w5 P5.out HN.out.1 (by decide) (by decide) true (by simp)).mono ?_
        rintro e w6 ⟨rfl, b6⟩
        have B6 := Lib.hid ((B4.out.trans (HN.out.2.mono B4.out.size)).trans (b6.out.mono (Nat.le_trans B4.out.size HN.out.2.size)))
        clear hw5
        go_wp2_with fail
        go_ret
        exact ⟨rfl, B6.out⟩

set_option maxRecDepth 100000 in
set_option maxHeartbeats 4000000 in
theorem ExprBack_walk (a b : ByteArray) (w : World) (ha : a.size ≤ maxLen) (hb : b.size ≤ maxLen) (hg : GlobE w) :
    Calls Try.prog 4 #[.string a, .string b] w fun e w' => e = .returned (.bool true) ∧ Below w.heap.size w w' := by
  by_cases hsm : a.size ≤ 500 ∧ b.size ≤ 100
  · exact back10_small (bs a) (bs b) w (by rw [bs_length]; exact hsm.1) (by rw [bs_length]; exact hsm.2) hg
  · have hways : (500 : Int) < (a.size : Int) ∨ (¬ (500 : Int) < (a.size : Int) ∧ (100 : Int) < (b.size : Int)) := by omega
    have HG := Lib.hid hg
    clear hsm hg ha hb
    rcases hways with h1 | ⟨h1, h2⟩
    all_goals
      go_enter Try.func4, Try.ntmps4
      go_wp2_with fail
      refine (awake10_c _ HG.out).mono ?_
      rintro e w2 ⟨rfl, b2⟩
      go_wp2_with fail
      go_ret
      exact ⟨rfl, b2.out⟩
end Go.Proofs.Ytlblhoeekcglpaa
