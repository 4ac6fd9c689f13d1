/-
  The walk of ChooseTells.
-/
import Derived.Test.YtkphkcpckgdgaaaGreatDoorCsAwake
import Derived.Test.YtkphkcpckgdgaaaGreatDoorRcPick
import Derived.Test.YtkphkcpckgdgaaaGreatDoorGnOwn
import Derived.Test.YtkphkcpckgdgaaaGreatDoorSpArg
namespace Go.Proofs.YtkphkcpckgdgaaaGreatDoor
open Nwl
open Go.RowKit Go.Maps
set_option linter.unusedVariables false

theorem own_in {B g n : Nat} {w : World} {l : List (List UInt8)} {f : List UInt8} (hn : n = l.length) (h : StrR B w (some ⟨g, 0, none⟩) (n + 3) (l ++ [f, f, f])) : StrR B w (some ⟨g, 0, none⟩) n l := by
  refine ⟨hn, fun j hj => ?_⟩
  obtain ⟨g', o', e, hg, hc⟩ := h.2 j (by simp; omega)
  rw [List.getElem_append_left (by omega)] at hc
  exact ⟨g', o', e, hg, hc⟩
set_option maxRecDepth 100000 in
set_option maxHeartbeats 8000000 in
theorem ChooseTells_walk (A : Option Addr) (n c : Nat) (A2 : Option Addr) (n2 c2 : Nat) (s : ByteArray) (w : World) (m1 : n ≤ maxLen) (k1 : A = none → n = 0 ∧ c = 0) (h1 : ∃ l : List (List UInt8), StrR w.heap.size w A n l ∧ ∀ x ∈ l, x.length ≤ maxLen) (m2 : n2 ≤ maxLen) (k2 : A2 = none → n2 = 0 ∧ c2 = 0) (h2 : ∃ l : List Sp, SpR w.heap.size w A2 n2 l ∧ ∀ s ∈ l, s.lo.length ≤ maxLen ∧ s.hi.length ≤ maxLen) (ms : s.size ≤ maxLen) (hg : Glob w) :
    Calls Tryz.prog 3 #[.slice A n c, .slice A2 n2 c2, .string s] w fun e w' => e = .returned (.bool true) ∧ Below w.heap.size w w' := by
  obtain ⟨l, hR, hS⟩ := h1
  obtain ⟨r, hR2, hS2⟩ := h2
  have HR := Lib.hid hR
  have HS := Lib.hid hS
  have HM := Lib.hid m1
  have HK := Lib.hid k1
  have HR2 := Lib.hid hR2
  have HS2 := Lib.hid hS2
  have hn1 := m1
  have hn2 := m2
  unfold maxLen at hn1 hn2 ms
  clear hR hS m1 k1 hR2 hS2 m2 k2 hg
  obtain ⟨f, hf⟩ : ∃ f, fewL l = f := ⟨_, rfl⟩
  have HF := Lib.hid hf
  cases f with
  | false =>
    clear hf
    go_enter Tryz.func3, Tryz.ntmps3
    go_wp2_with fail
    refine (few_c A n c l w w.heap.size HR.out HM.out HS.out false HF.out).mono ?_
    rintro e w1 ⟨rfl, rfl⟩
    go_wp2_with fail
    refine (awake8_c _).mono ?_
    rintro e w1 ⟨rfl, B1⟩
    go_wp2_with fail
    go_ret
    exact ⟨rfl, B1.out⟩
  | true =>
    obtain ⟨hx, hn20⟩ := fewL_mem hf
    have hnl := HR.out.1
    have hn : n ≤ 20 := by omega
    have HX : Hid (∀ x ∈ l, x.length ≤ 1000) := Lib.hid fun x h => by have := hx x h; omega
    have HX3 : Hid (∀ x ∈ l, x.length ≤ 3000) := Lib.hid fun x h => by have := hx x h; omega
    clear hf hx hn20 hnl
    by_cases hb1 : 10 < n2
    · go_enter Tryz.func3, Tryz.ntmps3
      go_wp2_with fail
      refine (few_c A n c l w w.heap.size HR.out HM.out HS.out true HF.out).mono ?_
      rintro e w1 ⟨rfl, rfl⟩
      go_wp2_with fail
      refine (awake8_c _).mono ?_
      rintro e w1 ⟨rfl, B1⟩
      go_wp2_with fail
      go_ret
      exact ⟨rfl, B1.out⟩
    by_cases hb2 : 300 < s.size
    · go_enter Tryz.func3, Tryz.ntmps3
      go_wp2_with fail
      refine (few_c A n c l w w.heap.size HR.out HM.out HS.out true HF.out).mono ?_
      rintro e w1 ⟨rfl, rfl⟩
      go_wp2_with fail
      refine (awake8_c _).mono ?_
      rintro e w1 ⟨rfl, B1⟩
      go_wp2_with fail
      go_ret
      exact ⟨rfl, B1.out⟩
    have hs1 : s.size ≤ 1000 := by omega
    have hs3 : s.size ≤ 3000 := by omega
    have hnr : n2 ≤ 10 := by omega
    obtain ⟨⟨x, b⟩, hp1⟩ : ∃ t, highR l r = t := ⟨_, rfl⟩
    obtain ⟨⟨y, k⟩, hp2⟩ : ∃ t, pickV l (bs s) = t := ⟨_, rfl⟩
    have HP1 := Lib.hid hp1
    have HP2 := Lib.hid hp2
    clear hp1 hp2
    go_enter Tryz.func3, Tryz.ntmps3
    go_wp2_with fail
    refine (few_c A n c l w w.heap.size HR.out HM.out HS.out true HF.out).mono ?_
    rintro e w1 ⟨rfl, rfl⟩
    go_wp2_with fail
    go_loopw [7] (fun iv wr => ∃ i : Nat, i ≤ n2 ∧ iv = .int .i64 i ∧ w = wr ∧ Hid (∀ j (hj : j < r.length), j < i → r[j].lo.length ≤ 100 ∧ r[j].hi.length ≤ 100)) (fun iv _ => n2 - (intOf iv).toNat)
    case atStart => exact ⟨0, by omega, rfl, rfl, Lib.hid (fun j _ h => by omega)⟩
    case round =>
      obtain ⟨i, hi, rfl, rfl, hh⟩ := hrel
      by_cases hlt : i < n2
      · have hil : i < r.length := by have := HR2.out.1; omega
        obtain ⟨g, o, rfl, hg, c0, c1, c2', c3⟩ := HR2.out.2 i hil
        obtain ⟨q, hq⟩ : ∃ q, r[i] = q := ⟨_, rfl⟩
        have hsx := HS2.out _ (List.getElem_mem hil)
        rw [hq] at c0 c1 hsx
        obtain ⟨h1, h2⟩ := hsx
        unfold maxLen at h1 h2
        have z1 := tx_size q.lo
        have z2 := tx_size q.hi
        have d1 : (tx q.lo).size ≤ 9223372036854775807 := by omega
        have d2 : (tx q.hi).size ≤ 9223372036854775807 := by omega
        have HQ := Lib.hid hq
        by_cases q1 : 100 < (tx q.lo).size
        · clear z1 z2 h1 h2 hq c2' c3 hh
          go_wp2_with fail
          refine (awake8_c _).mono ?_
          rintro e w1 ⟨rfl, B1⟩
          go_wp2_with fail
          go_ret
          exact ⟨rfl, B1.out⟩
        · by_cases q2 : 100 < (tx q.hi).size
          · clear z1 z2 h1 h2 hq c2' c3 hh
            go_wp2_with fail
            refine (awake8_c _).mono ?_
            rintro e w1 ⟨rfl, B1⟩
            go_wp2_with fail
            go_ret
            exact ⟨rfl, B1.out⟩
          · have HN2 : Hid (∀ j (hj : j < r.length), j < i + 1 → r[j].lo.length ≤ 100 ∧ r[j].hi.length ≤ 100) := Lib.hid fun j hj hjk => by
              by_cases e : j = i
              · subst e; rw [HQ.out]; omega
              · exact hh.out j hj (by omega)
            clear z1 z2 h1 h2 hq c2' c3 hh
            go_wp2_with fail
            go_roundw
            case rel => exact ⟨i + 1, by omega, by go_num, by first | exact rfl | trivial, HN2⟩
            case measure => simp [intOf]; omega
      · obtain rfl : i = n2 := by omega
        have HSH : Hid (∀ q ∈ r, q.lo.length ≤ 100 ∧ q.hi.length ≤ 100) := Lib.hid fun q hq => by
          obtain ⟨j, hj, rfl⟩ := List.mem_iff_getElem.1 hq
          exact hh.out j hj (by have := HR2.out.1; omega)
        have HS1 : Hid (SpShort r) := Lib.hid fun q hq => by have := HSH.out q hq; omega
        have HS3 : Hid (∀ q ∈ r, q.lo.length ≤ 3000 ∧ q.hi.length ≤ 3000) := Lib.hid fun q hq => by have := HSH.out q hq; omega
        have hbb : (b == b) = true := by rw [beq_self_eq_true]
        have hkk : (k == k) = true := by rw [beq_self_eq_true]
        have htl : ∀ l, (tx l).toList = l := fun l => by rw [toList_bs]; rfl
        have ht71 : (⟨#[55, 49]⟩ : ByteArray) = tx [55, 49] := rfl
        clear hh hlt hb1 hb2
        go_wp2_with fail
        refine (Own_c A n c l [55, 49] _ HR.out HK.out (by omega)).mono ?_
        rintro e w1 ⟨rfl, hh1⟩
        have B1 := Lib.hid hh1.out.2
        have O1 := Lib.hid hh1.out.1
        have I1 : Hid (StrR w1.heap.size w1 (some ⟨w.heap.size, 0, none⟩) n l) := Lib.hid (own_in HR.out.1 O1.out)
        have S1 := Lib.hid ((HR2.out.below B1.out).mono B1.out.size)
        have L1 := Lib.hid ((HR.out.below B1.out).mono B1.out.size)
        clear hh1
        go_wp2_with fail
        refine (Highest_c _ n (n + 3) l A2 i c2 r _ _ (Nat.le_refl _) I1.out S1.out (by omega) HX.out (by omega) HS1.out x b HP1.out).mono ?_
        rintro e w2 ⟨rfl, b2⟩
        have B2 := Lib.hid (B1.out.trans (b2.out.mono B1.out.size))
        have O2 := Lib.hid ((O1.out.below b2.out).mono b2.out.size)
        have S2 := Lib.hid ((S1.out.below b2.out).mono b2.out.size)
        have L2 := Lib.hid ((L1.out.below b2.out).mono b2.out.size)
        clear b2 B1 O1 S1 L1 I1
        go_wp2_with fail
        refine (rHighest_c A n c l A2 i c2 r _ _ (Nat.le_refl _) L2.out S2.out (by omega) HX3.out (by omega) HS3.out x b HP1.out).mono ?_
        rintro e w3 ⟨rfl, b3⟩
        have B3 := Lib.hid (B2.out.trans (b3.out.mono B2.out.size))
        have O3 := Lib.hid ((O2.out.below b3.out).mono b3.out.size)
        have L3 := Lib.hid ((L2.out.below b3.out).mono b3.out.size)
        have I3 := Lib.hid (own_in HR.out.1 O3.out)
        clear b3 B2 O2 S2 L2
        go_wp2_with fail
        refine (Pick_c _ n (n + 3) l s _ _ (Nat.le_refl _) I3.out (by omega) HX.out hs1 y k HP2.out).mono ?_
        rintro e w4 ⟨rfl, b4⟩
        have B4 := Lib.hid (B3.out.trans (b4.out.mono B3.out.size))
        have O4 := Lib.hid ((O3.out.below b4.out).mono b4.out.size)
        have L4 := Lib.hid ((L3.out.below b4.out).mono b4.out.size)
        clear b4 B3 O3 L3 I3
        go_wp2_with fail
        refine (rPick_c A n c l s _ _ (Nat.le_refl _) L4.out (by omega) HX3.out hs3 y k HP2.out).mono ?_
        rintro e w5 ⟨rfl, b5⟩
        have B5 := Lib.hid (B4.out.trans (b5.out.mono B4.out.size))
        have O5 := Lib.hid ((O4.out.below b5.out).mono b5.out.size)
        have L5 := Lib.hid ((L4.out.below b5.out).mono b5.out.size)
        clear b5 B4 O4 L4
        go_wp2_with fail
        refine (awake8_c _).mono ?_
        rintro e w6 ⟨rfl, b6⟩
        have B6 := Lib.hid (B5.out.trans (b6.out.mono B5.out.size))
        have O6 := Lib.hid ((O5.out.below b6.out).mono b6.out.size)
        have L6 := Lib.hid ((L5.out.below b6.out).mono b6.out.size)
        clear b6 B5 O5 L5
        go_wp2_with fail
        refine (Kept_c w.heap.size A n c l [55, 49] _ O6.out L6.out (by omega)).mono ?_
        rintro e w7 ⟨rfl, b7⟩
        have B7 := Lib.hid (B6.out.trans (b7.out.mono B6.out.size))
        go_wp2_with fail
        go_ret
        exact ⟨rfl, B7.out⟩
end Go.Proofs.YtkphkcpckgdgaaaGreatDoor
