/-
  The walk of ChooseHolds.
-/
import Derived.Test.YtkphkcpckgdgaaaDoorCsAwake
import Derived.Test.YtkphkcpckgdgaaaDoorRcParse
import Derived.Test.YtkphkcpckgdgaaaDoorRcHolds
import Derived.Test.YtkphkcpckgdgaaaDoorGnIn
import Derived.Test.YtkphkcpckgdgaaaDoorBd
import Derived.BigRegion
import Derived.StillTailTactics
import Derived.Deep.CutRange
namespace Nwl
theorem tmod_nat (a b : Nat) : (a : Int).tmod (b : Int) = ((a % b : Nat) : Int) := by
  rw [Int.tmod_eq_emod_of_nonneg (by omega)]; rfl
theorem pick_bad {l : List (List UInt8)} {w : List UInt8} {x : List UInt8} {k : Int} (h : pickV l w = (x, k)) (hk : k ≠ 0) : x = [] := by
  unfold pickV at h
  split at h
  · split at h
    · injection h with h1 h2; exact h1.symm
    · split at h
      · injection h with h1 h2; exact h1.symm
      · injection h with h1 h2; omega
  · split at h
    · injection h with h1 h2; omega
    · injection h with h1 h2; exact h1.symm
theorem right_ne {w : List UInt8} (h : rightV w = true) : w ≠ [] := by
  rintro rfl
  revert h; decide
theorem pick_word {l : List (List UInt8)} {w : List UInt8} {x : List UInt8} (h : pickV l w = (x, 0)) (hR : isR w = false) : x = w ∧ w ≠ [] := by
  rw [pick_plain hR] at h
  split at h
  · rename_i hr
    injection h with h1 h2
    exact ⟨h1.symm, right_ne hr⟩
  · injection h with h1 h2; omega
theorem pick_held {l : List (List UInt8)} {w : List UInt8} {x : List UInt8} (h : pickV l w = (x, 0)) (hR : isR w = true) : ∃ r, parseL w = some r ∧ x ∈ l ∧ holdsB r x = true ∧ ∀ y ∈ l, holdsB r y = true → cmpV y x ≤ 0 := by
  unfold pickV at h
  rw [if_pos hR] at h
  split at h
  · injection h with h1 h2; omega
  · rename_i r hr
    split at h
    · injection h with h1 h2; omega
    · rename_i v hv
      injection h with h1 h2
      subst h1
      obtain ⟨g1, g2⟩ := greatO_spec hv
      exact ⟨r, hr, (held_mem g1).1, (held_mem g1).2, fun y hy hh => cmp_of_le (g2 y (List.mem_filter.2 ⟨hy, hh⟩))⟩
end Nwl
namespace Go.Proofs.YtkphkcpckgdgaaaDoor
open Nwl
open Go.RowKit Go.Maps
set_option linter.unusedVariables false

theorem strm_drew {B : Nat} {w : World} {A : Option Addr} {n : Nat} {l : List (List UInt8)} (h : StrM B w A n l) : StrM B w.drew A n l := h
theorem wpl_append {P : Program} {w w' : World} {ops : Array Oper} {rest : List Oper} {o : Oper} {a : Act} {Q : Exit → Act → World → Prop} (hg : o.guard = none) (s x : Operand) (t : TypeId) (ho : o.op = .call { callee := .builtin .append, args := #[s, x], argTypes := #[t, t] })
    (v1 v2 v' : Value) (hs : a.eval s = v1) (hx : a.eval x = v2) (hr : (Builtin.append_ #[t, t] o.type #[v1, v2]).run P w = .ok v' w') (h : wpList P ops Q rest (a.put o.dst v') w') : wpList P ops Q (o :: rest) a w := by
  refine wpList_plain hg fun K hK => ?_
  unfold Oper.wp execOp
  simp only [ho, hs, hx, hr, resolve, invoke, builtin, List.map_toArray, List.map_cons, List.map_nil, Sem.run_bind, Sem.run_pure, Result.andThen_ok]
  exact hK _ _ h

set_option maxRecDepth 100000 in
set_option maxHeartbeats 8000000 in
theorem ChooseHolds_walk (A : Option Addr) (n c : Nat) (s : ByteArray) (A2 : Option Addr) (n2 c2 : Nat) (w : World) (m1 : n ≤ maxLen) (k1 : A = none → n = 0 ∧ c = 0) (h1 : ∃ l : List (List UInt8), StrR w.heap.size w A n l ∧ ∀ x ∈ l, x.length ≤ maxLen) (ms : s.size ≤ maxLen) (m2 : n2 ≤ maxLen) (h2 : ∀ j, j < n2 → ∃ b o z, A2 = some ⟨b, o, none⟩ ∧ b < w.heap.size ∧ w.cell? ⟨b, o + j, none⟩ = some (.int .i64 z)) (hg : Glob w) :
    Calls Tryd.prog 3 #[.slice A n c, .string s, .slice A2 n2 c2] w fun e w' => e = .returned (.bool true) ∧ Below w.heap.size w w' := by
  obtain ⟨l, hR, hS⟩ := h1
  have HR := Lib.hid hR
  have HS := Lib.hid hS
  have HM := Lib.hid m1
  have HK := Lib.hid k1
  have H2 := Lib.hid h2
  have hn1 := m1
  have hn2 := m2
  unfold maxLen at hn1 hn2 ms
  clear hR hS m1 k1 h2 m2 hg
  obtain ⟨r, hr⟩ : ∃ r, fewL l = r := ⟨_, rfl⟩
  have HF := Lib.hid hr
  cases r with
  | false =>
    clear hr
    go_enter Tryd.func3, Tryd.ntmps3
    go_wp2_with fail
    refine (few_c A n c l w w.heap.size HR.out HM.out HS.out false HF.out).mono ?_
    rintro e w1 ⟨rfl, rfl⟩
    go_wp2_with fail
    refine (awake8_c _).mono ?_
    rintro e w1 ⟨rfl, B1⟩
    go_wp2_with fail
    go_ret
    exact ⟨rfl, B1.out⟩
  | true =>
    obtain ⟨hx, hn20⟩ := fewL_mem hr
    have hnl := HR.out.1
    have hn : n ≤ 20 := by omega
    have HX : Hid (∀ x ∈ l, x.length ≤ 1000) := Lib.hid fun x h => by have := hx x h; omega
    clear hr hx hn20 hnl
    by_cases hbig : 300 < s.size
    · go_enter Tryd.func3, Tryd.ntmps3
      go_wp2_with fail
      refine (few_c A n c l w w.heap.size HR.out HM.out HS.out true HF.out).mono ?_
      rintro e w1 ⟨rfl, rfl⟩
      go_wp2_with fail
      refine (awake8_c _).mono ?_
      rintro e w1 ⟨rfl, B1⟩
      go_wp2_with fail
      go_ret
      exact ⟨rfl, B1.out⟩
    · obtain ⟨A5, c5, w5, hap, hM, hb5⟩ := str_copy HR.out HK.out (by omega)
      have HAP := Lib.hid hM
      have HB5 := Lib.hid hb5
      have HRUN := Lib.hid hap
      have hs1 : s.size ≤ 1000 := by omega
      have hs3 : s.size ≤ 3000 := by omega
      have hsm : s.size ≤ maxLen := by unfold maxLen; omega
      clear hM hb5 hap
      obtain ⟨⟨x, k⟩, hp⟩ : ∃ t, pickV l (bs s) = t := ⟨_, rfl⟩
      have HP := Lib.hid hp
      clear hp
      go_enter Tryd.func3, Tryd.ntmps3
      go_wp2_with fail
      refine (few_c A n c l w w.heap.size HR.out HM.out HS.out true HF.out).mono ?_
      rintro e w1 ⟨rfl, rfl⟩
      go_wp2_with (at_builtin; go_must (refine wpl_append rfl _ _ _ rfl _ _ _ rfl rfl HRUN.out ?_))
      go_loopw [8] (fun iv wr => ∃ k : Nat, k ≤ n2 ∧ k ≤ 30 ∧ iv = .int .i64 k ∧ Hid (∃ l2, l2.Perm l ∧ StrM w.heap.size wr A5 n l2 ∧ Below w.heap.size w wr)) (fun iv _ => 30 - (intOf iv).toNat)
      case atStart => exact ⟨0, by omega, by omega, rfl, Lib.hid ⟨l, List.Perm.refl _, HAP.out, HB5.out⟩⟩
      case round =>
        obtain ⟨j, hk2, hk30, rfl, hh⟩ := hrel
        by_cases hgo : j < n2 ∧ j < 30 ∧ 0 < n
        · obtain ⟨g1, g2, g3⟩ := hgo
          obtain ⟨l2, hp, hm, hb⟩ := hh.out
          have hll : n = l2.length := hm.1
          obtain ⟨q, hq⟩ : ∃ q, j % n = q := ⟨_, rfl⟩
          have hqn : q < n := by rw [← hq]; exact Nat.mod_lt _ g3
          have hqm : (j : Int).tmod (n : Int) = (q : Int) := by rw [tmod_nat, hq]
          obtain ⟨b2, o2, z, rfl, hb2, hc2⟩ := H2.out j g1
          have hc2' : wr.cell? ⟨b2, o2 + j, none⟩ = some (.int .i64 z) := (hb.cell (p := ⟨b2, o2 + j, none⟩) hb2).trans hc2
          obtain ⟨y, hx1, hx2⟩ := idxN z n (by omega) (by omega)
          have hxn : y < n := by omega
          have hnw : IntKind.u64.wrap (n : Int) = (n : Int) := by rw [IntKind.wrap_u64]; omega
          have hn0 : ¬ (n : Int) = 0 := by omega
          obtain ⟨g, cs, rfl, hgb, hbl, hcs, hcc⟩ := hm.2.resolve_left (by intro e; rw [e] at hll; simp at hll; omega)
          have d1 : wr.cell? ⟨g, q, none⟩ = some (.string (tx (l2[q]'(by omega)))) := by rw [hbl.cell]; exact hcc q (by omega)
          have d2 : wr.cell? ⟨g, y, none⟩ = some (.string (tx (l2[y]'(by omega)))) := by rw [hbl.cell]; exact hcc y (by omega)
          have f1 := hbl.frozen q
          have f2 := hbl.frozen y
          have f3 := (hbl.set q (.string (tx (l2[y]'(by omega))))).frozen y
          obtain ⟨V, hV⟩ := cell?_setCell_some (p := ⟨g, q, none⟩) (x := .string (tx (l2[y]'(by omega)))) d2
          have HN : Hid (∃ l3, l3.Perm l ∧ StrM w.heap.size ((wr.setCell ⟨g, q, none⟩ (.string (tx (l2[y]'(by omega))))).setCell ⟨g, y, none⟩ (.string (tx (l2[q]'(by omega))))).drew (some ⟨g, 0, none⟩) n l3 ∧ Below w.heap.size w ((wr.setCell ⟨g, q, none⟩ (.string (tx (l2[y]'(by omega))))).setCell ⟨g, y, none⟩ (.string (tx (l2[q]'(by omega))))).drew) := Lib.hid ⟨_, (swapL_perm l2 q y (by omega) (by omega)).trans hp, strm_drew (hm.swap (by omega) (by omega)), ((hb.setCell hgb _).setCell hgb _).drew⟩
          generalize l2[q]'(by omega) = X at *
          generalize l2[y]'(by omega) = Y at *
          clear hh hp hm hb hll hbl hcs hcc hq hc2 hb2
          go_wp2_with fail
          simp only [hx1]
          go_region
          all_goals (go_wp2_with fail; go_roundw)
          all_goals first
            | exact ⟨j + 1, by omega, by omega, by go_num, HN⟩
            | (simp [intOf]; omega)
        · have hcase : j = n2 ∨ (j < n2 ∧ j = 30) ∨ (j < n2 ∧ j < 30 ∧ n = 0) := by omega
          clear hgo
          go_upto_region 5 with fail
          go_cut [40] from 28 to 72 (fun v wx => v = .bool false ∧ wr = wx)
          case first =>
            rcases hcase with rfl | ⟨q1, rfl⟩ | ⟨q1, q2, rfl⟩
            all_goals
              go_wp2_with fail
              go_meet
              exact ⟨rfl, rfl⟩
          case rest =>
          obtain ⟨rfl, rfl⟩ := hcut
          obtain ⟨l2, hp, hm, hb⟩ := hh.out
          have HM2 := Lib.hid hm
          have HB := Lib.hid hb
          have HL2 : Hid (∀ x ∈ l2, x.length ≤ 1000) := Lib.hid fun x h => HX.out x (hp.mem_iff.1 h)
          have HP2 : Hid (pickV l2 (bs s) = (x, k)) := Lib.hid (by rw [pickV_perm _ hp]; exact HP.out)
          clear hh hp hm hb hcase hk2 hk30
          have hk0 : (k != k) = false := by rw [bne_self_eq_false]
          have htl : ∀ l, (tx l).toList = l := fun l => by rw [toList_bs]; rfl
          have HRA := Lib.hid ((HR.out.below HB.out).mono HB.out.size)
          go_wp2_with fail
          refine (Pick_c A n c l s _ _ (Nat.le_refl _) HRA.out (by omega) HX.out hs1 x k HP.out).mono ?_
          rintro e w6 ⟨rfl, b6⟩
          have B6 := Lib.hid (HB.out.trans (b6.out.mono HB.out.size))
          have M6 := Lib.hid (HM2.out.below b6.out)
          clear b6
          go_wp2_with fail
          refine (Pick_c A5 n c5 l2 s _ _ (Nat.le_refl _) M6.out.r (by omega) HL2.out hs1 x k HP2.out).mono ?_
          rintro e w7 ⟨rfl, b7⟩
          have B7 := Lib.hid (B6.out.trans (b7.out.mono B6.out.size))
          clear b7 M6 B6
          go_wp2_with fail
          refine (awake8_c _).mono ?_
          rintro e w8 ⟨rfl, b8⟩
          have B8 := Lib.hid (B7.out.trans (b8.out.mono B7.out.size))
          clear b8 B7
          by_cases hk : k = 0
          · subst hk
            obtain ⟨q, hq⟩ : ∃ q, isR (bs s) = q := ⟨_, rfl⟩
            have HQ := Lib.hid hq
            cases q with
            | false =>
              obtain ⟨e1, e2⟩ := pick_word HP.out hq
              subst e1
              have hne : (bs s).isEmpty = false := by
                cases hb : bs s with
                | nil => exact absurd hb e2
                | cons => rfl
              have hts : tx (bs s) = s := tx_bs s
              have hsb : s.toList = bs s := toList_bs s
              have hne2 : s.toList.isEmpty = false := by rw [hsb]; exact hne
              clear hq e2
              go_wp2_with fail
              refine (rIs_c s _ hsm false HQ.out).mono ?_
              rintro e w9 ⟨rfl, rfl⟩
              go_wp2_with fail
              go_ret
              exact ⟨rfl, B8.out⟩
            | true =>
              obtain ⟨rs, hrs, hx1, hx2, hx3⟩ := pick_held HP.out hq
              have HRS := Lib.hid hrs
              have HX1 : Hid (decide (x ∈ l) = true) := Lib.hid (decide_eq_true hx1)
              have HX2 : Hid (holdsB rs (bs (tx x)) = true) := Lib.hid (by rw [bs_tx]; exact hx2)
              have HX3 := Lib.hid hx3
              have hxs : (tx x).size ≤ 3000 := by rw [tx_size]; have := HX.out x hx1; omega
              clear hq hrs hx1 hx2 hx3
              go_wp2_with fail
              refine (rIs_c s _ hsm true HQ.out).mono ?_
              rintro e w9 ⟨rfl, rfl⟩
              go_wp2_with fail
              refine (rParse_c s _ hs3 (some rs) HRS.out).mono ?_
              rintro e w9 hp
              obtain ⟨b9, hp2⟩ := hp.out
              have B9 := Lib.hid (B8.out.trans (b9.mono B8.out.size))
              clear hp b9 B8
              rcases hp2 with ⟨hno, _⟩ | ⟨l4, A4, n4, c4, he4, rfl, hrow4, hsh4, hn4⟩
              · cases hno
              · injection he4 with he4
                subst he4
                have HR4 := Lib.hid hrow4.r
                have HS4 := Lib.hid hsh4
                have HR9 := Lib.hid ((HR.out.below B9.out).mono B9.out.size)
                clear hrow4 hsh4
                go_wp2_with fail
                refine (In_c A n c l x _ _ HR9.out (by omega) true HX1.out).mono ?_
                rintro e w10 ⟨rfl, rfl⟩
                go_wp2_with fail
                refine (rHolds_c A4 n4 c4 rs (tx x) _ _ (Nat.le_refl _) HR4.out (by omega) HS4.out hxs true HX2.out).mono ?_
                rintro e w10 ⟨rfl, b10⟩
                have B10 := Lib.hid (B9.out.trans (b10.out.mono B9.out.size))
                have R10 := Lib.hid ((HR4.out.below b10.out).mono b10.out.size)
                clear b10 B9 HR4 HR9
                go_wp2_with fail
                go_loopw [16] (fun iv wq => ∃ j : Nat, j ≤ n ∧ iv = .int .i64 j ∧ Hid (Below w.heap.size w wq ∧ SpR wq.heap.size wq A4 n4 rs)) (fun iv _ => n - (intOf iv).toNat)
                case atStart => exact ⟨0, by omega, rfl, Lib.hid ⟨B10.out, R10.out⟩⟩
                case round =>
                  obtain ⟨j, hjn, rfl, hq⟩ := hrel
                  by_cases hj : j < n
                  · have hjl : j < l.length := by have := HR.out.1; omega
                    obtain ⟨g, o, rfl, hg, hc⟩ := HR.out.2 j hjl
                    obtain ⟨y, hy⟩ : ∃ y, l[j] = y := ⟨_, rfl⟩
                    have HY : Hid (y ∈ l) := Lib.hid (by rw [← hy]; exact List.getElem_mem hjl)
                    rw [hy] at hc
                    have hc' : wr.cell? ⟨g, o + j, none⟩ = some (.string (tx y)) := (hq.out.1.cell (p := ⟨g, o + j, none⟩) hg).trans hc
                    have hys : (tx y).size ≤ 3000 := by rw [tx_size]; have := HX.out y HY.out; omega
                    obtain ⟨d, hd⟩ : ∃ d, holdsB rs (bs (tx y)) = d := ⟨_, rfl⟩
                    have HD := Lib.hid hd
                    have QB := Lib.hid hq.out.1
                    have QR := Lib.hid hq.out.2
                    clear hd hc hy hjl hq
                    cases d with
                    | false =>
                      go_wp2_with fail
                      refine (rHolds_c A4 n4 c4 rs (tx y) _ _ (Nat.le_refl _) QR.out (by omega) HS4.out hys false HD.out).mono ?_
                      rintro e wz ⟨rfl, bz⟩
                      have BZ := Lib.hid (QB.out.trans (bz.out.mono QB.out.size))
                      have RZ := Lib.hid ((QR.out.below bz.out).mono bz.out.size)
                      clear bz QB QR
                      go_wp2_with fail
                      go_roundw
                      case rel => exact ⟨j + 1, by omega, by go_num, Lib.hid ⟨BZ.out, RZ.out⟩⟩
                      case measure => simp [intOf]; omega
                    | true =>
                      obtain ⟨q, hqe⟩ : ∃ q, cmpV (bs (tx y)) (bs (tx x)) = q := ⟨_, rfl⟩
                      have hq0 : ¬ 0 < q := by
                        have h3 := HX3.out y HY.out (by have := HD.out; rwa [bs_tx] at this)
                        rw [bs_tx, bs_tx] at hqe
                        omega
                      have HC := Lib.hid hqe
                      clear hqe
                      go_wp2_with fail
                      refine (rHolds_c A4 n4 c4 rs (tx y) _ _ (Nat.le_refl _) QR.out (by omega) HS4.out hys true HD.out).mono ?_
                      rintro e wz ⟨rfl, bz⟩
                      have BZ := Lib.hid (QB.out.trans (bz.out.mono QB.out.size))
                      have RZ := Lib.hid ((QR.out.below bz.out).mono bz.out.size)
                      have hcz : wz.cell? ⟨g, o + j, none⟩ = some (.string (tx y)) := (bz.out.cell (p := ⟨g, o + j, none⟩) (Nat.lt_of_lt_of_le hg QB.out.size)).trans hc'
                      clear bz QB QR hc'
                      go_wp2_with fail
                      refine (rCompare_c (tx y) (tx x) _ hys hxs q HC.out).mono ?_
                      rintro e wy ⟨rfl, by'⟩
                      have BY := Lib.hid (BZ.out.trans (by'.out.mono BZ.out.size))
                      have RY := Lib.hid ((RZ.out.below by'.out).mono by'.out.size)
                      clear by' BZ RZ hcz
                      go_wp2_with fail
                      go_roundw
                      case rel => exact ⟨j + 1, by omega, by go_num, Lib.hid ⟨BY.out, RY.out⟩⟩
                      case measure => simp [intOf]; omega
                  · have HB2 := Lib.hid hq.out.1
                    clear hq
                    go_wp2_with fail
                    go_ret
                    exact ⟨rfl, HB2.out⟩
          · have e1 := pick_bad HP.out hk
            subst e1
            have hkn : (k != 0) = true := by rw [bne_iff_ne]; exact hk
            have hke : (k == 0) = false := by rw [beq_eq_false_iff_ne]; exact hk
            have ht0 : tx [] = ⟨#[]⟩ := rfl
            rw [ht0]
            go_wp2_with fail
            go_ret
            exact ⟨rfl, B8.out⟩
end Go.Proofs.YtkphkcpckgdgaaaDoor
