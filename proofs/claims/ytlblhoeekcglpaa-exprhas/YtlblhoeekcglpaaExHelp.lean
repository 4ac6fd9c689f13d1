/-
  newelhelp.Plain, Own and Kept, over pieces.
-/
import Derived.Test.YtlblhoeekcglpaaExProg
import Derived.Deep.RegionWith
import Derived.Laws.OwnMore
namespace Go.Proofs.Ytlblhoeekcglpaa
open Nwl
open Go.RowKit Go.Maps
set_option linter.unusedVariables false
set_option linter.unusedSimpArgs false

set_option maxRecDepth 100000 in
theorem pplain1_c (a b : Pc) (w : World) (r : Bool) (h : decide (a = b) = r) :
    Calls Try.prog 21 #[pcV a.nm a.t, pcV b.nm b.t] w fun e w' => e = .returned (.bool r) ∧ Below w.heap.size w w' := by
  subst h
  obtain ⟨k1, t1⟩ := a
  obtain ⟨k2, t2⟩ := b
  have htl := tlx
  by_cases hk : k1 = k2
  · subst hk
    by_cases ht : t1 = t2
    · rw [decide_eq_true (by rw [ht])]
      subst ht
      cases k1
      all_goals
        go_enter Try.func21, Try.ntmps21
        go_wp2_with fail
        go_ret
        exact ⟨rfl, ((Below.refl _ _).alloc (Nat.le_refl _) _).alloc (by simp) _⟩
    · rw [decide_eq_false (fun e => ht (congrArg Pc.t e))]
      have ht2 : (t1 == t2) = false := by rw [beq_eq_false_iff_ne]; exact ht
      cases k1
      all_goals
        go_enter Try.func21, Try.ntmps21
        go_wp2_with fail
        go_ret
        exact ⟨rfl, ((Below.refl _ _).alloc (Nat.le_refl _) _).alloc (by simp) _⟩
  · rw [decide_eq_false (fun e => hk (congrArg Pc.nm e))]
    cases k1 <;> cases k2 <;> first | exact absurd rfl hk | skip
    all_goals
      clear hk
      go_enter Try.func21, Try.ntmps21
      go_wp2_with fail
      go_ret
      exact ⟨rfl, ((Below.refl _ _).alloc (Nat.le_refl _) _).alloc (by simp) _⟩

theorem below_drd {w wr w2 : World} (h : Below w.heap.size w wr) (h2 : Below wr.drew.heap.size wr.drew w2) : Below w.heap.size w w2 := h.drew.trans (h2.mono h.size)

set_option maxRecDepth 100000 in
set_option maxHeartbeats 4000000 in
theorem PSame_c (A1 A2 : Option Addr) (n1 n2 c1 c2 : Nat) (l1 l2 : List Pc) (w : World) (h1 : PcR w.heap.size w A1 n1 l1) (h2 : PcR w.heap.size w A2 n2 l2) (hm : n1 ≤ 1000000000) (hm2 : n2 ≤ 1000000000) (r : Bool) (hr : decide (l1 = l2) = r) :
    Calls Try.prog 20 #[.slice A1 n1 c1, .slice A2 n2 c2, .func (.func 21) #[] #[]] w fun e w' => e = .returned (.bool r) ∧ Hid (Below w.heap.size w w') := by
  by_cases hn : n1 = n2
  · subst hn
    have HR := Lib.hid hr
    have H1 := Lib.hid h1
    have H2 := Lib.hid h2
    clear hr h1 h2
    go_enter Try.func20, Try.ntmps20
    go_wp2_with fail
    go_loopw [7] (fun i wr => ∃ k : Nat, k ≤ n1 ∧ i = .int .i64 k ∧ Hid (Below w.heap.size w wr ∧ ∀ j (hj : j < l1.length) (hj2 : j < l2.length), j < k → l1[j] = l2[j])) (fun i _ => n1 - (intOf i).toNat)
    case atStart => exact ⟨0, Nat.zero_le _, rfl, Lib.hid ⟨Below.refl _ _, fun j _ _ h => by omega⟩⟩
    case round =>
      obtain ⟨k, hk, rfl, hh⟩ := hrel
      by_cases hlt : k < n1
      · have e1 := H1.out.1
        have e2 := H2.out.1
        obtain ⟨g1, o1, rfl, z1, q1, q2⟩ := H1.out.2 k (by omega)
        obtain ⟨g2, o2, rfl, z2, q3, q4⟩ := H2.out.2 k (by omega)
        obtain ⟨x, hx⟩ : ∃ x, l1[k] = x := ⟨_, rfl⟩
        obtain ⟨y, hy⟩ : ∃ y, l2[k] = y := ⟨_, rfl⟩
        rw [hx] at q1 q2
        rw [hy] at q3 q4
        have r1 : wr.cell? ⟨g1, o1 + k * 2, none⟩ = some (.bool x.nm) := (hh.out.1.cell (p := ⟨g1, o1 + k * 2, none⟩) z1).trans q1
        have r2 : wr.cell? ⟨g1, o1 + k * 2 + 1, none⟩ = some (.string (tx x.t)) := (hh.out.1.cell (p := ⟨g1, o1 + k * 2 + 1, none⟩) z1).trans q2
        have r3 : wr.cell? ⟨g2, o2 + k * 2, none⟩ = some (.bool y.nm) := (hh.out.1.cell (p := ⟨g2, o2 + k * 2, none⟩) z2).trans q3
        have r4 : wr.cell? ⟨g2, o2 + k * 2 + 1, none⟩ = some (.string (tx y.t)) := (hh.out.1.cell (p := ⟨g2, o2 + k * 2 + 1, none⟩) z2).trans q4
        clear q1 q2 q3 q4
        obtain ⟨d, hd⟩ : ∃ d, decide (x = y) = d := ⟨_, rfl⟩
        have HD := Lib.hid hd
        cases d with
        | true =>
          have hxy : x = y := of_decide_eq_true hd
          have HN : Hid (∀ j (hj : j < l1.length) (hj2 : j < l2.length), j < k + 1 → l1[j] = l2[j]) := Lib.hid fun j hj hj2 hjk => by
            by_cases e : j = k
            · subst e; rw [hx, hy]; exact hxy
            · exact hh.out.2 j hj hj2 (by omega)
          have HB := Lib.hid hh.out.1
          clear hd hxy hx hy hh e1 e2
          go_wp2_with fail
          go_region_with (go_at_call 21; refine (pplain1_c x y _ true HD.out).mono ?_; rintro e w2 ⟨rfl, b2⟩)
          all_goals (have HB2 : Hid (Below w.heap.size w w2) := Lib.hid (below_drd HB.out b2))
          all_goals (go_wp2_with fail; go_roundw)
          all_goals first | exact ⟨k + 1, by omega, by go_num, Lib.hid ⟨HB2.out, HN.out⟩⟩ | (simp [intOf]; omega)
        | false =>
          have hxy : ¬ x = y := of_decide_eq_false hd
          have HF : Hid (false = r) := Lib.hid (by
            rw [← HR.out]
            refine (decide_eq_false fun e => hxy ?_).symm
            rw [← hx, ← hy]
            simp only [e])
          have HB := Lib.hid hh.out.1
          clear hd hxy hx hy hh e1 e2
          go_wp2_with fail
          go_region_with (go_at_call 21; refine (pplain1_c x y _ false HD.out).mono ?_; rintro e w2 ⟨rfl, b2⟩)
          all_goals (have HB2 : Hid (Below w.heap.size w w2) := Lib.hid (below_drd HB.out b2))
          all_goals (go_wp2_with fail; go_ret)
          all_goals exact ⟨ret_bool HF.out, HB2⟩
      · have HF : Hid (true = r) := Lib.hid (by
          rw [← HR.out]
          refine (decide_eq_true ?_).symm
          have e1 := H1.out.1
          have e2 := H2.out.1
          exact List.ext_getElem (by omega) fun j hj hj2 => hh.out.2 j hj hj2 (by omega))
        have HB := Lib.hid hh.out.1
        clear hh
        go_wp2_with fail
        go_ret
        exact ⟨ret_bool HF.out, HB⟩
  · have hne : ¬ (n1 : Int) = (n2 : Int) := by omega
    have hne2 : ((n1 : Int) != (n2 : Int)) = true := by rw [bne_iff_ne]; exact hne
    have HF : Hid (false = r) := Lib.hid (by
      rw [← hr]
      refine (decide_eq_false fun e => hn ?_).symm
      rw [h1.1, h2.1, e])
    clear hn hr h1 h2 hne
    go_enter Try.func20, Try.ntmps20
    go_wp2_with fail
    go_ret
    exact ⟨ret_bool HF.out, Lib.hid (Below.refl _ _)⟩

set_option maxRecDepth 100000 in
theorem PPlain_c (A1 A2 : Option Addr) (n1 n2 c1 c2 : Nat) (l1 l2 : List Pc) (w : World) (h1 : PcR w.heap.size w A1 n1 l1) (h2 : PcR w.heap.size w A2 n2 l2) (hm : n1 ≤ 1000000000) (hm2 : n2 ≤ 1000000000) (r : Bool) (hr : decide (l1 = l2) = r) :
    Calls Try.prog 11 #[.slice A1 n1 c1, .slice A2 n2 c2] w fun e w' => e = .returned (.bool r) ∧ Hid (Below w.heap.size w w') := by
  have H1 := Lib.hid h1
  have H2 := Lib.hid h2
  have HR := Lib.hid hr
  clear h1 h2 hr
  go_enter Try.func11, Try.ntmps11
  go_wp2_with fail
  refine (PSame_c A1 A2 n1 n2 c1 c2 l1 l2 w H1.out H2.out hm hm2 r HR.out).mono ?_
  rintro e w2 ⟨rfl, hb2⟩
  go_wp2_with fail
  go_ret
  exact ⟨rfl, hb2⟩
end Go.Proofs.Ytlblhoeekcglpaa
