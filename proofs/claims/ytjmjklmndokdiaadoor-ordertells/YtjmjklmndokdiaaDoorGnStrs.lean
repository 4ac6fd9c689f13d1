/-
  Texts in memory: newelhelp.Plain over them.
-/
import Derived.Test.YtjmjklmndokdiaaDoorBe
import Derived.Deep.RegionWith
namespace Nwl
def fewL (l : List (List UInt8)) : Bool := l.all (fun x => decide (x.length ≤ 100)) && decide (l.length ≤ 20)
theorem fewL_mem {l : List (List UInt8)} (h : fewL l = true) : (∀ x ∈ l, x.length ≤ 100) ∧ l.length ≤ 20 := by
  unfold fewL at h
  rw [Bool.and_eq_true, List.all_eq_true, decide_eq_true_eq] at h
  exact ⟨fun x hx => of_decide_eq_true (h.1 x hx), h.2⟩
end Nwl
namespace Go.Proofs.YtjmjklmndokdiaaDoor
open Nwl
open Go.RowKit Go.Maps
set_option linter.unusedVariables false

theorem below_dr {w wr w2 : World} (h : Below w.heap.size w wr) (h2 : Below wr.drew.heap.size wr.drew w2) : Below w.heap.size w w2 := h.drew.trans (h2.mono h.size)

set_option maxRecDepth 100000 in
theorem splain1_c (a b : List UInt8) (w : World) (r : Bool) (h : decide (a = b) = r) :
    Calls Tryd.prog 26 #[.string (tx a), .string (tx b)] w fun e w' => e = .returned (.bool r) ∧ w = w' := by
  have htl : ∀ l, (tx l).toList = l := fun l => by rw [toList_bs]; rfl
  subst h
  by_cases h : a = b
  · rw [decide_eq_true h]
    subst h
    go_enter Tryd.func26, Tryd.ntmps26
    go_wp2_with fail
    go_ret
    exact ⟨rfl, rfl⟩
  · rw [decide_eq_false h]
    have ht2 : (a == b) = false := by rw [beq_eq_false_iff_ne]; exact h
    clear h
    go_enter Tryd.func26, Tryd.ntmps26
    go_wp2_with fail
    go_ret
    exact ⟨rfl, rfl⟩

set_option maxRecDepth 100000 in
set_option maxHeartbeats 4000000 in
theorem SSame_c (A1 A2 : Option Addr) (n1 n2 c1 c2 : Nat) (l1 l2 : List (List UInt8)) (w : World) (h1 : StrR w.heap.size w A1 n1 l1) (h2 : StrR w.heap.size w A2 n2 l2) (hm : n1 ≤ 1000000000) (hm2 : n2 ≤ 1000000000) (r : Bool) (hr : decide (l1 = l2) = r) :
    Calls Tryd.prog 25 #[.slice A1 n1 c1, .slice A2 n2 c2, .func (.func 26) #[] #[]] w fun e w' => e = .returned (.bool r) ∧ Below w.heap.size w w' := by
  by_cases hn : n1 = n2
  · subst hn
    have HR := Lib.hid hr
    have H1 := Lib.hid h1
    have H2 := Lib.hid h2
    clear hr h1 h2
    go_enter Tryd.func25, Tryd.ntmps25
    go_wp2_with fail
    go_loopw [7] (fun i wr => ∃ k : Nat, k ≤ n1 ∧ i = .int .i64 k ∧ Hid (Below w.heap.size w wr ∧ ∀ j (hj : j < l1.length) (hj2 : j < l2.length), j < k → l1[j] = l2[j])) (fun i _ => n1 - (intOf i).toNat)
    case atStart => exact ⟨0, Nat.zero_le _, rfl, Lib.hid ⟨Below.refl _ _, fun j _ _ h => by omega⟩⟩
    case round =>
      obtain ⟨k, hk, rfl, hh⟩ := hrel
      by_cases hlt : k < n1
      · have e1 := H1.out.1
        have e2 := H2.out.1
        obtain ⟨g1, o1, rfl, z1, q1⟩ := H1.out.2 k (by omega)
        obtain ⟨g2, o2, rfl, z2, q3⟩ := H2.out.2 k (by omega)
        obtain ⟨x, hx⟩ : ∃ x, l1[k] = x := ⟨_, rfl⟩
        obtain ⟨y, hy⟩ : ∃ y, l2[k] = y := ⟨_, rfl⟩
        rw [hx] at q1
        rw [hy] at q3
        have r1 : wr.cell? ⟨g1, o1 + k, none⟩ = some (.string (tx x)) := (hh.out.1.cell (p := ⟨g1, o1 + k, none⟩) z1).trans q1
        have r3 : wr.cell? ⟨g2, o2 + k, none⟩ = some (.string (tx y)) := (hh.out.1.cell (p := ⟨g2, o2 + k, none⟩) z2).trans q3
        clear q1 q3
        obtain ⟨d, hd⟩ : ∃ d, decide (x = y) = d := ⟨_, rfl⟩
        have HD := Lib.hid hd
        cases d with
        | true =>
          have hxy : x = y := of_decide_eq_true hd
          have HN : Hid (∀ j (hj : j < l1.length) (hj2 : j < l2.length), j < k + 1 → l1[j] = l2[j]) := Lib.hid fun j hj hj2 hjk => by
            by_cases e : j = k
            · subst e; rw [hx, hy]; exact hxy
            · exact hh.out.2 j hj hj2 (by omega)
          have HB := Lib.hid hh.out.1
          clear hd hxy hx hy hh e1 e2
          go_wp2_with fail
          go_region_with (go_at_call 26; refine (splain1_c x y _ true HD.out).mono ?_; rintro e w2 ⟨rfl, rfl⟩)
          all_goals (have HB2 : Hid (Below w.heap.size w wr.drew) := Lib.hid HB.out.drew)
          all_goals (go_wp2_with fail; go_roundw)
          all_goals first | exact ⟨k + 1, by omega, by go_num, Lib.hid ⟨HB2.out, HN.out⟩⟩ | (simp [intOf]; omega)
        | false =>
          have hxy : ¬ x = y := of_decide_eq_false hd
          have HF : Hid (false = r) := Lib.hid (by
            rw [← HR.out]
            refine (decide_eq_false fun e => hxy ?_).symm
            rw [← hx, ← hy]
            simp only [e])
          have HB := Lib.hid hh.out.1
          clear hd hxy hx hy hh e1 e2
          go_wp2_with fail
          go_region_with (go_at_call 26; refine (splain1_c x y _ false HD.out).mono ?_; rintro e w2 ⟨rfl, rfl⟩)
          all_goals (have HB2 : Hid (Below w.heap.size w wr.drew) := Lib.hid HB.out.drew)
          all_goals (go_wp2_with fail; go_ret)
          all_goals exact ⟨ret_bool HF.out, HB2.out⟩
      · have HF : Hid (true = r) := Lib.hid (by
          rw [← HR.out]
          refine (decide_eq_true ?_).symm
          have e1 := H1.out.1
          have e2 := H2.out.1
          exact List.ext_getElem (by omega) fun j hj hj2 => hh.out.2 j hj hj2 (by omega))
        have HB := Lib.hid hh.out.1
        clear hh
        go_wp2_with fail
        go_ret
        exact ⟨ret_bool HF.out, HB.out⟩
  · have hne : ¬ (n1 : Int) = (n2 : Int) := by omega
    have hne2 : ((n1 : Int) != (n2 : Int)) = true := by rw [bne_iff_ne]; exact hne
    have HF : Hid (false = r) := Lib.hid (by
      rw [← hr]
      refine (decide_eq_false fun e => hn ?_).symm
      rw [h1.1, h2.1, e])
    clear hn hr h1 h2 hne
    go_enter Tryd.func25, Tryd.ntmps25
    go_wp2_with fail
    go_ret
    exact ⟨ret_bool HF.out, Below.refl _ _⟩

set_option maxRecDepth 100000 in
theorem SPlain_c (A1 A2 : Option Addr) (n1 n2 c1 c2 : Nat) (l1 l2 : List (List UInt8)) (w : World) (B1 B2 : Nat) (h1 : StrR B1 w A1 n1 l1) (hB1 : B1 ≤ w.heap.size) (h2 : StrR B2 w A2 n2 l2) (hB2 : B2 ≤ w.heap.size) (hm : n1 ≤ 1000000000) (hm2 : n2 ≤ 1000000000) (r : Bool) (hr : decide (l1 = l2) = r) :
    Calls Tryd.prog 14 #[.slice A1 n1 c1, .slice A2 n2 c2] w fun e w' => e = .returned (.bool r) ∧ Hid (Below w.heap.size w w') := by
  have H1 := Lib.hid (h1.mono hB1)
  have H2 := Lib.hid (h2.mono hB2)
  have HR := Lib.hid hr
  clear h1 h2 hr hB1 hB2
  go_enter Tryd.func14, Tryd.ntmps14
  go_wp2_with fail
  refine (SSame_c A1 A2 n1 n2 c1 c2 l1 l2 w H1.out H2.out hm hm2 r HR.out).mono ?_
  rintro e w2 ⟨rfl, hb2⟩
  go_wp2_with fail
  go_ret
  exact ⟨rfl, hb2⟩

end Go.Proofs.YtjmjklmndokdiaaDoor
