/-
  The contract of the document's Split (layer 10).
-/
import Derived.Test.YtlblhoeekcglpaaExRef
namespace Nwl
open Go
theorem nameN_stay : ∀ {l : List UInt8} {j : Nat}, j < nameN l → ∃ h : j < l.length, barB l[j] = false
  | [], j, h => by simp [nameN] at h
  | a :: l, j, h => by
    rw [nameN_cons] at h
    cases hb : barB a with
    | true => rw [hb] at h; simp at h
    | false =>
      rw [hb] at h
      simp only [Bool.false_eq_true, if_false] at h
      cases j with
      | zero => exact ⟨by simp, hb⟩
      | succ j =>
        obtain ⟨h1, h2⟩ := nameN_stay (l := l) (j := j) (by omega)
        exact ⟨by simpa using h1, h2⟩
theorem nameN_stop : ∀ {l : List UInt8} (h : nameN l < l.length), barB l[nameN l] = true
  | [], h => by simp at h
  | a :: l, h => by
    cases hb : barB a with
    | true =>
      have : nameN (a :: l) = 0 := by rw [nameN_cons, hb]; rfl
      simp only [this]
      exact hb
    | false =>
      have : nameN (a :: l) = nameN l + 1 := by rw [nameN_cons, hb]; rfl
      rw [this] at h
      simp only [this]
      exact nameN_stop (l := l) (by simpa using h)
theorem textN_stay : ∀ {l : List UInt8} {j : Nat}, j < textN l → beginB (l.drop j) = false
  | [], j, h => by simp [textN] at h
  | a :: l, j, h => by
    rw [textN_cons] at h
    cases hb : beginB (a :: l) with
    | true => rw [hb] at h; simp at h
    | false =>
      rw [hb] at h
      simp only [Bool.false_eq_true, if_false] at h
      cases j with
      | zero => exact hb
      | succ j => exact textN_stay (l := l) (j := j) (by omega)
theorem textN_stop : ∀ {l : List UInt8}, textN l < l.length → beginB (l.drop (textN l)) = true
  | [], h => by simp at h
  | a :: l, h => by
    cases hb : beginB (a :: l) with
    | true =>
      have : textN (a :: l) = 0 := by rw [textN_cons, hb]; rfl
      rw [this]
      exact hb
    | false =>
      have : textN (a :: l) = textN l + 1 := by rw [textN_cons, hb]; rfl
      rw [this] at h ⊢
      exact textN_stop (l := l) (by simpa using h)
theorem bar_parts {b : UInt8} (h : barB b = false) : ((b.toNat : Int) != 36) = true ∧ ((b.toNat : Int) != 123) = true ∧ ((b.toNat : Int) != 125) = true := by
  unfold barB at h
  rw [Bool.or_eq_false_iff, Bool.or_eq_false_iff, beq_eq_false_iff_ne, beq_eq_false_iff_ne, beq_eq_false_iff_ne] at h
  obtain ⟨⟨h1, h2⟩, h3⟩ := h
  refine ⟨?_, ?_, ?_⟩ <;> rw [bne_iff_ne] <;> intro e
  · exact h1 (UInt8.toNat_inj.1 (by show b.toNat = 36; omega))
  · exact h2 (UInt8.toNat_inj.1 (by show b.toNat = 123; omega))
  · exact h3 (UInt8.toNat_inj.1 (by show b.toNat = 125; omega))
theorem bar_yes {b : UInt8} (h : barB b = true) : b = 36 ∨ b = 123 ∨ b = 125 := by
  unfold barB at h
  rw [Bool.or_eq_true, Bool.or_eq_true, beq_iff_eq, beq_iff_eq, beq_iff_eq] at h
  rcases h with (h | h) | h
  · exact .inl h
  · exact .inr (.inl h)
  · exact .inr (.inr h)
end Nwl
namespace Go.Proofs.Ytlblhoeekcglpaa
open Nwl
open Go.RowKit Go.Maps
set_option linter.unusedVariables false
set_option linter.unusedSimpArgs false

set_option maxRecDepth 100000 in
set_option maxHeartbeats 4000000 in
theorem RSplit_c (l : List UInt8) (w : World) (hl : l.length ≤ 90000) :
    Calls Try.prog 9 #[.string (tx l)] w (ExPost l w) := by
  have hs : (tx l).size = l.length := tx_size l
  have HS := Lib.hid hs
  clear hs
  go_enter Try.func9, Try.ntmps9
  go_wp2_with fail
  go_loopw [4, 5] (fun lv iv wr => ∃ (k n c : Nat) (A : Option Addr) (ps : List Pc), k ≤ l.length ∧ n ≤ k ∧ iv = .int .i64 k ∧ lv = .slice A n c ∧ Hid (PcO w.heap.size wr A n c ps ∧ Below w.heap.size w wr ∧ splitX l = (splitX (l.drop k)).map (ps ++ ·))) (fun _ iv _ => l.length - (intOf iv).toNat)
  case atStart => exact ⟨0, 0, 0, none, [], Nat.zero_le _, Nat.le_refl _, rfl, rfl, Lib.hid ⟨PcO.nil _ _, Below.refl _ _, by simp⟩⟩
  case round =>
    obtain ⟨k, n, c, A, ps, hk, hnk, rfl, rfl, hh⟩ := hrel
    by_cases hlt : k < l.length
    · have j1 : (k : Int) < ((tx l).size : Int) := by have := HS.out; omega
      have hl2 : l.length ≤ 1000000000000000 := by omega
      have hn9 : n ≤ 99999 := by omega
      have HO := Lib.hid hh.out.1
      have HB := Lib.hid hh.out.2.1
      have HSP := Lib.hid hh.out.2.2
      have hre : l.drop k ≠ [] := by
        intro e
        have := congrArg List.length e
        rw [List.length_drop] at this
        simp at this
        omega
      have HRE := Lib.hid hre
      clear hh hre
      cases hb : beginB (l.drop k) with
      | true =>
        have HBG := Lib.hid hb
        have hk2l : k + 2 ≤ l.length := by
          by_cases h : k + 1 < l.length
          · omega
          · rw [begin_short h] at hb; cases hb
        have hk2 : IntKind.i64.wrap ((k : Int) + 2) = (k : Int) + 2 := by
          simp [IntKind.wrap, IntKind.bits, IntKind.signed]
          omega
        obtain ⟨D, hD⟩ : ∃ D, l.drop (k + 2) = D := ⟨_, rfl⟩
        have hDl : D.length + (k + 2) = l.length := by rw [← hD, List.length_drop]; omega
        have hdd : (l.drop k).drop 2 = D := by rw [List.drop_drop, hD]
        obtain ⟨m, hm⟩ : ∃ m, nameN D = m := ⟨_, rfl⟩
        have hml : m ≤ D.length := by rw [← hm]; exact nameN_le D
        have HD := Lib.hid hD
        have HDL := Lib.hid hDl
        have HM := Lib.hid hm
        have HDD := Lib.hid hdd
        have HML := Lib.hid hml
        clear hb hD hDl hdd hm hml
        go_wp2_with fail
        refine (rbegins_c l k _ hl2 hk true HBG.out).mono ?_
        rintro e w' ⟨rfl, rfl⟩
        go_wp2_with fail
        obtain ⟨w0, hw0⟩ : ∃ w0, wr = w0 := ⟨_, rfl⟩
        go_loopw [6] (fun ev wx => ∃ e : Nat, k + 2 ≤ e ∧ e ≤ k + 2 + m ∧ ev = .int .i64 e ∧ w0 = wx) (fun ev _ => k + 2 + m - (intOf ev).toNat)
        case atStart => exact ⟨k + 2, Nat.le_refl _, by omega, by go_num, hw0.symm⟩
        case round =>
          obtain ⟨e, he1, he2, rfl, rfl⟩ := hrel
          subst hw0
          by_cases hlt2 : e < k + 2 + m
          · obtain ⟨hjl, hjb⟩ := nameN_stay (l := D) (j := e - (k + 2)) (by have := HM.out; omega)
            have hel : e < l.length := by have := HDL.out; omega
            have hes : e < (tx l).size := by have := HS.out; omega
            have hesI : (e : Int) < ((tx l).size : Int) := by omega
            have hbe : (tx l)[e]'hes = D[e - (k + 2)]'hjl := by
              show l[e]'hel = _
              have h1 : D[e - (k + 2)]? = l[e]? := by
                rw [← HD.out, List.getElem?_drop]
                congr 1
                omega
              rw [List.getElem?_eq_getElem hjl, List.getElem?_eq_getElem hel] at h1
              exact (Option.some.inj h1).symm
            rw [← hbe] at hjb
            obtain ⟨p1, p2, p3⟩ := bar_parts hjb
            have hwe : IntKind.i64.wrap ((e : Int) + 1) = (e : Int) + 1 := by
              simp [IntKind.wrap, IntKind.bits, IntKind.signed]
              omega
            clear hjb hbe hjl
            go_wp2_with fail
            go_roundw
            case rel => exact ⟨e + 1, by omega, by omega, by go_num, by first | rfl | trivial⟩
            case measure => simp [intOf]; omega
          · obtain rfl : e = k + 2 + m := by omega
            obtain ⟨E, hE⟩ : ∃ E, k + 2 + m = E := ⟨_, rfl⟩
            have HE := Lib.hid hE
            have hcase : E = l.length ∨ ∃ h : E < (tx l).size, (tx l)[E] = 36 ∨ (tx l)[E] = 123 ∨ (tx l)[E] = 125 := by
              by_cases hEl : E = l.length
              · exact .inl hEl
              · have hml : m < D.length := by have := HDL.out; have := HML.out; omega
                have hEl2 : E < l.length := by have := HDL.out; omega
                refine .inr ⟨by have := HS.out; omega, ?_⟩
                have h0 := nameN_stop (l := D) (by rw [HM.out]; exact hml)
                have h1 : D[nameN D]'(by rw [HM.out]; exact hml) = l[E]'hEl2 := by
                  have h1 : D[m]? = l[E]? := by
                    rw [← HD.out, List.getElem?_drop, hE]
                  rw [List.getElem?_eq_getElem hml, List.getElem?_eq_getElem hEl2] at h1
                  have := Option.some.inj h1
                  rw [← this]
                  simp only [HM.out]
                rw [h1] at h0
                exact bar_yes h0
            have hEs : E ≤ l.length := by have := HDL.out; have := HML.out; omega
            rw [hE] at he1 he2 ⊢
            have HCS := Lib.hid hcase
            clear hcase hE
            go_upto_region 7 with fail
            go_cut [38] from 17 to 40 (fun v wx => v = .bool false ∧ Hid (PcO w.heap.size wx A n c ps ∧ Below w.heap.size w wx))
            case first =>
              rcases HCS.out with h | ⟨h, hc⟩
              · have j2 : ¬ (E : Int) < ((tx l).size : Int) := by have := HS.out; omega
                clear h
                go_wp2_with fail
                go_meet
                exact ⟨rfl, Lib.hid ⟨HO.out, HB.out⟩⟩
              · have j2 : (E : Int) < ((tx l).size : Int) := by omega
                rcases hc with hc | hc | hc
                all_goals
                  have hc2 : ((tx l)[E].toNat : Int) = _ := congrArg (fun b : UInt8 => (b.toNat : Int)) hc
                  clear hc
                  go_wp2_with fail
                  go_meet
                  exact ⟨rfl, Lib.hid ⟨HO.out, HB.out⟩⟩
            case rest =>
            clear HO HB
            obtain ⟨rfl, HH⟩ := hcut
            rename_i W6
            have HO := Lib.hid HH.out.1
            have HB := Lib.hid HH.out.2
            clear HH
            have hc3 := HCS.out
            have hcut : cutP (l.drop k) = if nameOk D then some (⟨true, D.take m⟩, D.drop (m + 1)) else none := by
              unfold cutP
              rw [if_pos HBG.out, HDD.out, HM.out]
            have hk2E : (k : Int) + 2 ≤ (E : Int) := by omega
            cases hok : nameOk D with
            | false =>
              rw [hok, if_neg (by decide)] at hcut
              have H1 : Hid (splitX l = none) := Lib.hid (by rw [HSP.out, splitX_none HRE.out hcut]; rfl)
              have HB6 := HB.out
              by_cases hEk : E = k + 2
              · subst hEk
                have b1 : (((k + 2 : Nat) : Int) == (k : Int) + 2) = true := by rw [beq_iff_eq]; omega
                clear hcut hok HCS hc3
                go_wp2_with fail
                go_ret2
                exact exPost_err H1.out rfl HB6
              · have b1 : ((E : Int) == (k : Int) + 2) = false := by rw [beq_eq_false_iff_ne]; omega
                rcases hc3 with h | ⟨h, hc3⟩
                · have b2 : ((E : Int) == ((tx l).size : Int)) = true := by rw [beq_iff_eq]; have := HS.out; omega
                  clear hcut hok HCS h
                  go_wp2_with fail
                  go_ret2
                  exact exPost_err H1.out rfl HB6
                · have b2 : ((E : Int) == ((tx l).size : Int)) = false := by rw [beq_eq_false_iff_ne]; omega
                  have hne : (tx l)[E] ≠ 125 := by
                    intro e
                    have hml : m < D.length := by have := HDL.out; have := HE.out; have := HS.out; omega
                    have h1 : D[m]? = some 125 := by
                      rw [← HD.out, List.getElem?_drop, HE.out, List.getElem?_eq_getElem (by have := HS.out; omega)]
                      exact congrArg some e
                    rw [nameOk, HM.out, h1, decide_eq_true (by have := HE.out; omega)] at hok
                    cases hok
                  have b3 : (((tx l)[E].toNat : Int) != 125) = true := by
                    rw [bne_iff_ne]
                    intro e
                    exact hne (UInt8.toNat_inj.1 (by show (tx l)[E].toNat = 125; omega))
                  have j2 : (E : Int) < ((tx l).size : Int) := by omega
                  clear hcut hok HCS hc3 hne
                  go_wp2_with fail
                  go_ret2
                  exact exPost_err H1.out rfl HB6
            | true =>
              rw [hok, if_pos rfl] at hcut
              obtain ⟨o1, o2, o3⟩ := nameOk_lt hok
              rw [HM.out] at o1 o2 o3
              have hEs2 : E < (tx l).size := by have := HDL.out; have := HE.out; have := HS.out; omega
              have j2 : (E : Int) < ((tx l).size : Int) := by omega
              have b1 : ((E : Int) == (k : Int) + 2) = false := by rw [beq_eq_false_iff_ne]; have := HE.out; omega
              have b2 : ((E : Int) == ((tx l).size : Int)) = false := by rw [beq_eq_false_iff_ne]; omega
              have h5 : (tx l)[E] = 125 := by
                rw [← HD.out, List.getElem?_drop, HE.out, List.getElem?_eq_getElem (by have := HS.out; omega)] at o3
                exact Option.some.inj o3
              have b3 : (((tx l)[E].toNat : Int) != 125) = false := by rw [h5]; rfl
              obtain ⟨T, hT⟩ : ∃ T, D.take m = T := ⟨_, rfl⟩
              rw [hT] at hcut
              have hx : (tx l).extract (k + 2) E = tx T := by
                rw [tx_ext, List.drop_take, HD.out, ← hT]
                congr 2
                have := HE.out
                omega
              have H1 : Hid (splitX l = (splitX (l.drop (E + 1))).map ((ps ++ [⟨true, T⟩]) ++ ·)) := Lib.hid (by
                rw [HSP.out, splitX_some HRE.out hcut, ← HD.out, List.drop_drop, show k + 2 + (m + 1) = E + 1 by have := HE.out; omega]
                simp only [Option.map_map]
                congr 1
                funext q
                simp)
              have hwE : IntKind.i64.wrap ((E : Int) + 1) = (E : Int) + 1 := by
                simp [IntKind.wrap, IntKind.bits, IntKind.signed]
                omega
              obtain ⟨A2, c2, W', hr, ho2, hb2⟩ := pc_snoc HO.out HB.out.size ⟨true, T⟩ hn9
              have HRUN := Lib.hid hr
              have HFIN : Hid (PcO w.heap.size W' A2 (n + 1) c2 (ps ++ [⟨true, T⟩]) ∧ Below w.heap.size w W' ∧ splitX l = (splitX (l.drop (E + 1))).map ((ps ++ [⟨true, T⟩]) ++ ·)) := Lib.hid ⟨ho2, HB.out.trans hb2, H1.out⟩
              have HLE : Hid (E + 1 ≤ l.length ∧ n + 1 ≤ E + 1 ∧ l.length - (E + 1) < l.length - k) := Lib.hid ⟨by have := HS.out; omega, by have := HE.out; omega, by have := HS.out; have := HE.out; omega⟩
              clear hcut hok HCS hc3 h5 hT hr ho2 hb2 H1 HO HB HE HD HM HML HDL HDD HRE HBG HSP o1 o2 o3
              go_wp2_with (at_builtin; refine wpl_app rfl _ _ _ rfl _ _ _ rfl rfl HRUN.out ?_)
              go_roundw
              case rel => exact ⟨E + 1, n + 1, c2, A2, ps ++ [⟨true, T⟩], HLE.out.1, HLE.out.2.1, by go_num, rfl, HFIN⟩
              case measure =>
                have := HLE.out.2.2
                simp [intOf]; omega
      | false =>
        have HBG := Lib.hid hb
        obtain ⟨m, hm⟩ : ∃ m, textN (l.drop k) = m := ⟨_, rfl⟩
        have hml : m ≤ l.length - k := by rw [← hm, ← List.length_drop]; exact textN_le _
        have hmp : 0 < m := by
          have h := hb
          rw [List.drop_eq_getElem_cons hlt] at h hm
          rw [← hm]
          exact textN_pos h
        have HM := Lib.hid hm
        have HML := Lib.hid hml
        have HMP := Lib.hid hmp
        clear hb hm hml hmp
        go_wp2_with fail
        refine (rbegins_c l k _ hl2 hk false HBG.out).mono ?_
        rintro e w' ⟨rfl, rfl⟩
        go_wp2_with fail
        go_loopw [6] (fun ev wx => ∃ e : Nat, k ≤ e ∧ e ≤ k + m ∧ ev = .int .i64 e ∧ Hid (PcO w.heap.size wx A n c ps ∧ Below w.heap.size w wx)) (fun ev _ => k + m - (intOf ev).toNat)
        case atStart => exact ⟨k, Nat.le_refl _, by omega, by go_num, Lib.hid ⟨HO.out, HB.out⟩⟩
        case round =>
          clear HO HB
          obtain ⟨e, he1, he2, rfl, HH⟩ := hrel
          have HO := Lib.hid HH.out.1
          have HB := Lib.hid HH.out.2
          clear HH
          by_cases hlt2 : e < k + m
          · have hjb := textN_stay (l := l.drop k) (j := e - k) (by have := HM.out; omega)
            rw [List.drop_drop, show k + (e - k) = e by omega] at hjb
            have hel : e < l.length := by have := HML.out; omega
            have hesI : (e : Int) < ((tx l).size : Int) := by have := HS.out; omega
            have hwe : IntKind.i64.wrap ((e : Int) + 1) = (e : Int) + 1 := by
              simp [IntKind.wrap, IntKind.bits, IntKind.signed]
              omega
            have hele : e ≤ l.length := by omega
            have HJ := Lib.hid hjb
            have HFIN : Hid (PcO w.heap.size wr A n c ps ∧ Below w.heap.size w wr) := Lib.hid ⟨HO.out, HB.out⟩
            clear hjb
            go_wp2_with fail
            refine (rbegins_c l e _ hl2 hele false HJ.out).mono ?_
            rintro e' w' ⟨rfl, rfl⟩
            go_wp2_with fail
            go_roundw
            case rel => exact ⟨e + 1, by omega, by omega, by go_num, HFIN⟩
            case measure => simp [intOf]; omega
          · obtain rfl : e = k + m := by omega
            obtain ⟨E, hE⟩ : ∃ E, k + m = E := ⟨_, rfl⟩
            have HE := Lib.hid hE
            have hcase : E = l.length ∨ (E < l.length ∧ beginB (l.drop E) = true) := by
              by_cases hEl : E = l.length
              · exact .inl hEl
              · have hEl2 : E < l.length := by have := HML.out; omega
                have h0 := textN_stop (l := l.drop k) (by rw [HM.out, List.length_drop]; omega)
                rw [HM.out, List.drop_drop, hE] at h0
                exact .inr ⟨hEl2, h0⟩
            have hEs : E ≤ l.length := by have := HML.out; omega
            rw [hE] at he1 he2 ⊢
            have HCS := Lib.hid hcase
            clear hcase hE
            go_upto_region 13 with fail
            go_cut [77] from 68 to 79 (fun v wx => v = .bool false ∧ Hid (PcO w.heap.size wx A n c ps ∧ Below w.heap.size w wx))
            case first =>
              rcases HCS.out with h | ⟨h, hc⟩
              · have j2 : ¬ (E : Int) < ((tx l).size : Int) := by have := HS.out; omega
                clear h
                go_wp2_with fail
                go_meet
                exact ⟨rfl, Lib.hid ⟨HO.out, HB.out⟩⟩
              · have j2 : (E : Int) < ((tx l).size : Int) := by have := HS.out; omega
                have HC := Lib.hid hc
                clear hc h
                go_wp2_with fail
                refine (rbegins_c l E _ hl2 hEs true HC.out).mono ?_
                rintro e' w' ⟨rfl, rfl⟩
                go_wp2_with fail
                go_meet
                exact ⟨rfl, Lib.hid ⟨HO.out, HB.out⟩⟩
            case rest =>
            clear HO HB
            obtain ⟨rfl, HH⟩ := hcut
            rename_i W6
            have HO := Lib.hid HH.out.1
            have HB := Lib.hid HH.out.2
            clear HH
            obtain ⟨T, hT⟩ : ∃ T, (l.drop k).take m = T := ⟨_, rfl⟩
            have hcut : cutP (l.drop k) = some (⟨false, T⟩, l.drop E) := by
              unfold cutP
              rw [if_neg (by rw [HBG.out]; decide), HM.out, hT, List.drop_drop, HE.out]
            have hx : (tx l).extract k E = tx T := by
              rw [tx_ext, List.drop_take, ← hT]
              congr 2
              have := HE.out
              omega
            have H1 : Hid (splitX l = (splitX (l.drop E)).map ((ps ++ [⟨false, T⟩]) ++ ·)) := Lib.hid (by
              rw [HSP.out, splitX_some HRE.out hcut]
              simp only [Option.map_map]
              congr 1
              funext q
              simp)
            have hkE : (k : Int) ≤ (E : Int) := by omega
            have hEsI : (E : Int) ≤ ((tx l).size : Int) := by have := HS.out; omega
            obtain ⟨A2, c2, W', hr, ho2, hb2⟩ := pc_snoc HO.out HB.out.size ⟨false, T⟩ hn9
            have HRUN := Lib.hid hr
            have HFIN : Hid (PcO w.heap.size W' A2 (n + 1) c2 (ps ++ [⟨false, T⟩]) ∧ Below w.heap.size w W' ∧ splitX l = (splitX (l.drop E)).map ((ps ++ [⟨false, T⟩]) ++ ·)) := Lib.hid ⟨ho2, HB.out.trans hb2, H1.out⟩
            have HLE : Hid (E ≤ l.length ∧ n + 1 ≤ E ∧ l.length - E < l.length - k) := Lib.hid ⟨hEs, by have := HE.out; have := HMP.out; omega, by have := HE.out; have := HMP.out; omega⟩
            clear hcut HCS hT hr ho2 hb2 H1 HO HB HE HM HML HMP HRE HBG HSP
            go_wp2_with (at_builtin; refine wpl_app rfl _ _ _ rfl _ _ _ rfl rfl HRUN.out ?_)
            go_roundw
            case rel => exact ⟨E, n + 1, c2, A2, ps ++ [⟨false, T⟩], HLE.out.1, HLE.out.2.1, by go_num, rfl, HFIN⟩
            case measure =>
              have := HLE.out.2.2
              simp [intOf]; omega
    · obtain rfl : k = l.length := by omega
      have j1 : ¬ ((l.length : Nat) : Int) < ((tx l).size : Int) := by have := HS.out; omega
      have H1 : Hid (splitX l = some ps) := Lib.hid (by rw [hh.out.2.2, List.drop_length, splitX_nil]; simp)
      have HO := Lib.hid hh.out.1
      have HB := Lib.hid hh.out.2.1
      clear hh
      go_wp2_with fail
      go_ret2
      exact exPost_ok H1.out rfl HO.out HB.out
end Go.Proofs.Ytlblhoeekcglpaa
