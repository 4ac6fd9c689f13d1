/-
  The walk of ElementStands.
-/
import Derived.Test.YtkccockdnjjanaaGreatDoorElAwake
import Derived.Test.YtkccockdnjjanaaGreatDoorEqSize
import Derived.Test.YtkccockdnjjanaaGreatDoorMtRightC
import Derived.Test.YtkccockdnjjanaaGreatDoorNdRdR
namespace Nwl
theorem small_is {ns : List Nd} (h : ∀ x ∈ ns, bulkN x ≤ 80000) : Each ns := small_each (small_all h (by omega))
end Nwl
namespace Go.Proofs.YtkccockdnjjanaaGreatDoor
open Nwl
open Go.RowKit Go.Maps
set_option linter.unusedVariables false
set_option linter.unusedSimpArgs false

theorem tl_tx (m : List UInt8) : (tx m).toList = m := by rw [ByteArray.toList_eq]; rfl

set_option maxRecDepth 100000 in
set_option maxHeartbeats 4000000 in
theorem ElementStands_walk (s : ByteArray) (w : World) (hs : s.size ≤ maxLen) (hg : Glob w) :
    Calls Tryz.prog 4 #[.string s] w fun e w' => e = .returned (.bool true) ∧ Below w.heap.size w w' := by
  have HG := Lib.hid hg
  have hs2 := hs
  unfold maxLen at hs2
  clear hg
  by_cases hbig : 3000 < s.size
  · go_enter Tryz.func4, Tryz.ntmps4
    go_wp2_with fail
    refine (awake3_c _ HG.out).mono ?_
    rintro e w1 ⟨rfl, hb1⟩
    go_wp2_with fail
    go_ret
    exact ⟨rfl, hb1⟩
  · cases hx : parseX (bs s) with
    | error m =>
      have hm0 : (m == 0) = false := by rw [beq_eq_false_iff_ne]; exact parse_ne hx
      have hm1 : (m != 0) = true := by rw [bne_iff_ne]; exact parse_ne hx
      have HX := Lib.hid hx
      clear hx
      go_enter Tryz.func4, Tryz.ntmps4
      go_wp2_with fail
      refine (Parse_c s w hs HG.out).mono ?_
      rw [HX.out]
      rintro e w1 ⟨A1, c1, rfl, hn1, hb1⟩
      simp only [errOf, nodesOf]
      have HB1 := Lib.hid hb1
      clear hn1 hb1
      go_wp2_with fail
      refine (awake3_c _ (HG.out.below HB1.out)).mono ?_
      rintro e w2 ⟨rfl, hb2⟩
      go_wp2_with fail
      go_ret
      exact ⟨rfl, HB1.out.trans (hb2.mono HB1.out.size)⟩
    | ok ns =>
      have hright := parse_right hx
      have hsm := small_is (parse_bk hx)
      have hfew := (rightB_few hright).2
      have HX := Lib.hid hx
      have HE := Lib.hid (right_each hright)
      have HRT := Lib.hid hright
      have HSM := Lib.hid hsm
      clear hx hright hsm
      go_enter Tryz.func4, Tryz.ntmps4
      go_wp2_with fail
      refine (Parse_c s w hs HG.out).mono ?_
      rw [HX.out]
      rintro e w1 ⟨A1, c1, rfl, hn1, hb1⟩
      simp only [errOf, nodesOf] at hn1 ⊢
      have HB1 := Lib.hid hb1
      have HR := Lib.hid (NodesR.of hn1)
      clear hn1 hb1
      obtain ⟨N, hN⟩ : ∃ N, N = ns.length := ⟨_, rfl⟩
      rw [← hN] at hfew HR ⊢
      have HN := Lib.hid hN
      clear hN
      go_wp2_with fail
      go_loopw [5] (fun iv wr => ∃ q : Nat, q ≤ N ∧ iv = .int .i64 q ∧ Hid (Below w1.heap.size w1 wr)) (fun iv _ => N - (intOf iv).toNat)
      case atStart => exact ⟨0, Nat.zero_le _, rfl, Below.refl _ _⟩
      case round =>
        obtain ⟨q, hq, rfl, hh⟩ := hrel
        have HB := hh
        clear hh
        have hs1 := HB1.out.size
        have hs2' := HB.out.size
        by_cases hqn : q < N
        · have hql : q < ns.length := by have := HN.out; omega
          obtain ⟨r1, r2, r3, r4⟩ := HE.out q hql
          obtain ⟨b, o, A2, l2, c2, hA, hra, e0, e1, e2, e3⟩ := (HR.out.below HB.out).at q hql
          subst hA
          have hpq : (ns[q]).parent = parAt ns q := by
            show _ = (nd ns ((q : Nat) : Int).toNat).parent
            rw [Int.toNat_natCast, nd_eq ns q hql]
          have htq : textB (nd ns q) = decide ((ns[q]).name = []) := by
            unfold textB
            rw [nd_eq ns q hql]
          have hxq : (nd ns q).text = (ns[q]).text := by rw [nd_eq ns q hql]
          rw [hpq] at e0
          obtain ⟨m, hm⟩ : ∃ m, (ns[q]).name = m := ⟨_, rfl⟩
          obtain ⟨t, ht⟩ : ∃ t, (ns[q]).text = t := ⟨_, rfl⟩
          rw [hm] at e1 htq
          rw [ht] at e2 hxq
          have hml := tl_tx m
          have htl := tl_tx t
          have hmt : (m = [] ∧ t ≠ []) ∨ (m ≠ [] ∧ t = []) := by
            by_cases h0 : m = []
            · exact .inl ⟨h0, by rw [← hxq]; exact r3 (by rw [htq]; exact decide_eq_true h0)⟩
            · exact .inr ⟨h0, by rw [← hxq]; exact r4 (by rw [htq]; exact decide_eq_false h0)⟩
          by_cases hq0 : q = 0
          · obtain ⟨p1, p2⟩ := r1 hq0
            have p1' : parAt ns q = -1 := by rw [hq0]; rw [hq0] at p1; exact p1
            rw [hq0] at p2
            have htq0 := htq
            rw [hq0] at htq0
            rw [htq0] at p2
            have hm0 : m ≠ [] := of_decide_eq_false p2
            have ht0 : t = [] := by rcases hmt with h | h; exact absurd h.1 hm0; exact h.2
            have hme : m.isEmpty = false := by rw [List.isEmpty_eq_false_iff]; exact hm0
            have hte : t.isEmpty = true := by rw [ht0]; rfl
            obtain ⟨p, hp⟩ : ∃ p, parAt ns q = p := ⟨_, rfl⟩
            rw [hp] at e0 p1'
            have k1 : (p == -1) = true := by rw [beq_iff_eq]; exact p1'
            have k2 : ((q : Int) == 0) = true := by rw [beq_iff_eq]; omega
            have k3 : decide ((q : Int) ≤ p) = false := by rw [decide_eq_false_iff_not]; omega
            have k4 : ¬ (q : Int) ≤ p := by omega
            have k5 : decide ((0 : Int) ≤ p) = false := by rw [decide_eq_false_iff_not]; omega
            have k6 : ¬ (0 : Int) ≤ p := by omega
            have k7 : decide (p = -1) = true := decide_eq_true p1'
            have k8 : decide ((q : Int) = 0) = true := by rw [decide_eq_true_iff]; omega
            have k9 : decide (q = 0) = true := decide_eq_true hq0
            clear r1 r2 r3 r4 hpq htq hxq hm ht hra e3 hmt p1 p2 p1' hq0 htq0 hp hm0 ht0
            go_wp2_with fail
            go_quiet (fail)
            go_wp2_with fail
            go_roundw
            case rel => exact ⟨q + 1, by omega, by go_num, bel_drewN HB.out _⟩
            case measure => simp [intOf]; omega
          · obtain ⟨q', p1, p2, p3⟩ := r2 (by omega)
            have hql' : q' < ns.length := by omega
            obtain ⟨b', o', A3, l3, c3, hA', hra', _, d1, _, _⟩ := (HR.out.below HB.out).at q' hql'
            injection hA' with hA'
            injection hA' with hb' ho' _
            subst hb' ho'
            have htq' : textB (nd ns q') = decide ((ns[q']).name = []) := by
              unfold textB
              rw [nd_eq ns q' hql']
            rw [htq'] at p3
            obtain ⟨m', hm'⟩ : ∃ m, (ns[q']).name = m := ⟨_, rfl⟩
            rw [hm'] at p3 d1
            have hml' := tl_tx m'
            have hm0' : m' ≠ [] := of_decide_eq_false p3
            have hme' : m'.isEmpty = false := by rw [List.isEmpty_eq_false_iff]; exact hm0'
            rw [p1] at e0
            have f1 : ((q' : Int) == -1) = false := by rw [beq_eq_false_iff_ne]; omega
            have f2 : ((q : Int) == 0) = false := by rw [beq_eq_false_iff_ne]; omega
            have f3 : decide (q ≤ q') = false := by rw [decide_eq_false_iff_not]; omega
            have f4 : ¬ q ≤ q' := by omega
            have f5 : ¬ (q : Int) ≤ (q' : Int) := by omega
            have f6 : decide ((q : Int) ≤ (q' : Int)) = false := by rw [decide_eq_false_iff_not]; omega
            have f7 : (0 : Int) ≤ (q' : Int) := by omega
            have f8 : q' < N := by omega
            rcases hmt with ⟨g1, g2⟩ | ⟨g1, g2⟩
            · have hme : m.isEmpty = true := by rw [g1]; rfl
              have hte : t.isEmpty = false := by rw [List.isEmpty_eq_false_iff]; exact g2
              clear r1 r2 r3 r4 hpq htq hxq hm ht hra e3 p1 p3 hra' hm' htq' hm0' g1 g2
              go_wp2_with fail
              go_quiet (fail)
              go_wp2_with fail
              go_roundw
              case rel => exact ⟨q + 1, by omega, by go_num, bel_drewN HB.out _⟩
              case measure => simp [intOf]; omega
            · have hme : m.isEmpty = false := by rw [List.isEmpty_eq_false_iff]; exact g1
              have hte : t.isEmpty = true := by rw [g2]; rfl
              clear r1 r2 r3 r4 hpq htq hxq hm ht hra e3 p1 p3 hra' hm' htq' hm0' g1 g2
              go_wp2_with fail
              go_quiet (fail)
              go_wp2_with fail
              go_roundw
              case rel => exact ⟨q + 1, by omega, by go_num, bel_drewN HB.out _⟩
              case measure => simp [intOf]; omega
        · obtain rfl : q = N := by omega
          go_wp2_with fail
          refine (awake3_c _ (HG.out.below (HB1.out.trans (HB.out.mono hs1)))).mono ?_
          rintro e w3 ⟨rfl, hb3⟩
          have HB3 : Hid (Below w1.heap.size w1 w3) := Lib.hid (HB.out.trans (hb3.mono hs2'))
          have hs3 := HB3.out.size
          clear hb3
          go_wp2_with fail
          refine (rRight_e ns A1 q c1 _ (NdRd.ofR ((HR.out.below HB3.out).mono hs3) HN.out) (by omega) HSM.out true HRT.out).mono ?_
          rintro e w4 ⟨rfl, hb4⟩
          have HB4 : Hid (Below w.heap.size w w4) := Lib.hid (HB1.out.trans ((HB3.out.trans (hb4.out.mono hs3)).mono hs1))
          clear hb4
          go_wp2_with fail
          go_ret
          exact ⟨rfl, HB4.out⟩
end Go.Proofs.YtkccockdnjjanaaGreatDoor
