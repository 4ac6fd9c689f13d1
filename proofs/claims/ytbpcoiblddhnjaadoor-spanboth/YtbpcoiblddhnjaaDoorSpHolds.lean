/-
  Contracts of span.Holds, span.mayCome; newelhelp.Plain over spans.
-/
import Derived.Test.YtbpcoiblddhnjaaDoorSpMem
import Derived.Deep.RegionWith
namespace Nwl
theorem holds_step {l : List Sp} {v : List UInt8} {k : Nat} (hk : k < l.length) (h : holdsB (l.take k) v = false) (hw : withinB l[k] v = false) : holdsB (l.take (k + 1)) v = false := by
  rw [← List.take_append_getElem hk]
  unfold holdsB at *
  rw [List.any_append, h, List.any_cons, hw]; rfl
theorem holds_hit {l : List Sp} {v : List UInt8} {k : Nat} (hk : k < l.length) (hw : withinB l[k] v = true) : holdsB l v = true := by
  unfold holdsB
  rw [List.any_eq_true]
  exact ⟨l[k], List.getElem_mem hk, hw⟩
theorem come_last {l : List Sp} {s : Sp} (k : Nat) (hk : l.length = k + 1) : comeB l s = (!(l.length == 20 || (l[k]'(by omega)).hi == [] || s.lo == []) && aboveB s.lo (l[k]'(by omega)).hi (!(l[k]'(by omega)).ih || !s.il)) := by
  unfold comeB
  have : l.getLast? = some (l[k]'(by omega)) := by
    rw [List.getLast?_eq_getElem?, show l.length - 1 = k by omega]
    exact List.getElem?_eq_getElem (by omega)
  rw [this]
end Nwl
namespace Go.Proofs.YtbpcoiblddhnjaaDoor
open Nwl
open Go.RowKit Go.Maps
set_option linter.unusedVariables false

set_option maxRecDepth 100000 in
set_option maxHeartbeats 2000000 in
theorem Holds_c (A : Option Addr) (n c : Nat) (l : List Sp) (v : ByteArray) (w : World) (B : Nat) (hB : B ≤ w.heap.size) (h : SpR B w A n l) (hn : n ≤ 100000) (hl : SpShort l) (hv : v.size ≤ 1000) (r : Bool) (hr : holdsB l (bs v) = r) :
    Calls Tryd.prog 12 #[.slice A n c, .string v] w fun e w' => e = .returned (.bool r) ∧ Hid (Below w.heap.size w w') := by
  have H := Lib.hid h
  have HL := Lib.hid hl
  have HR := Lib.hid hr
  have HN : Hid (n = l.length) := Lib.hid h.1
  have HBB := Lib.hid hB
  clear h hl hr hB
  go_enter Tryd.func12, Tryd.ntmps12
  go_wp2_with fail
  refine wp_scope_again 0 (fun a' w' => ∃ (i : Int) (k : Nat) (u6 u7 u8 u9 u10 u11 u12 u13 u14 u15 u16 u17 : Value), a' = { tmps := #[.slice A n c, .string v, undef, undef, .bool false, .int .i64 i, u6, u7, u8, u9, u10, u11, u12, u13, u14, u15, u16, u17], defers := [] } ∧ i = k ∧ k ≤ n ∧ Hid (Below w.heap.size w w' ∧ holdsB (l.take k) (bs v) = false)) (fun a' _ => n - (intOf (a'.tmps.getD 5 undef)).toNat) rfl ?_ ?_
  · rintro a' w1 ⟨i, k, u6, u7, u8, u9, u10, u11, u12, u13, u14, u15, u16, u17, rfl, hik, hk, hh⟩
    by_cases hlt : k < n
    · have hne : ((k : Int) == (n : Int)) = false := by rw [beq_eq_false_iff_ne]; omega
      have hkl : k < l.length := by have := HN.out; omega
      obtain ⟨g, o, rfl, hg, c0, c1, c2, c3⟩ := (H.out.below (hh.out.1.mono HBB.out)).2 k hkl
      obtain ⟨x, hx⟩ : ∃ x, l[k] = x := ⟨_, rfl⟩
      rw [hx] at c0 c1 c2 c3
      have hsx := HL.out x (by rw [← hx]; exact List.getElem_mem hkl)
      obtain ⟨d, hd⟩ : ∃ d, withinB x (bs v) = d := ⟨_, rfl⟩
      have HD := Lib.hid hd
      obtain ⟨hs1, hs2⟩ := hsx
      have HS1 := Lib.hid hs1
      have HS2 := Lib.hid hs2
      cases d with
      | true =>
        have HF : Hid (true = r) := Lib.hid (by rw [← HR.out]; exact (holds_hit hkl (by rw [hx]; exact hd)).symm)
        have HB := Lib.hid hh.out.1
        subst hik
        clear hh hd hx hs1 hs2
        go_wp2_with (go_at_call 23; refine (within_c x v _ HS1.out HS2.out hv true HD.out).mono ?_; rintro e w2 ⟨rfl, b2⟩)
        have HB2 := Lib.hid (HB.out.trans (b2.out.mono HB.out.size))
        simp only [Exit.jump]
        go_ret
        exact ⟨ret_bool HF.out, HB2⟩
      | false =>
        have HN2 := Lib.hid (holds_step hkl hh.out.2 (by rw [hx]; exact hd))
        have HB := Lib.hid hh.out.1
        subst hik
        clear hh hd hx hs1 hs2
        go_wp2_with (go_at_call 23; refine (within_c x v _ HS1.out HS2.out hv false HD.out).mono ?_; rintro e w2 ⟨rfl, b2⟩)
        have HB2 := Lib.hid (HB.out.trans (b2.out.mono HB.out.size))
        go_step3
        refine ⟨rfl, ⟨_, k + 1, _, _, _, _, _, _, _, _, _, _, _, _, rfl, by omega, by omega, Lib.hid ⟨HB2.out, HN2.out⟩⟩, ?_⟩
        simp [intOf]
        omega
    · obtain rfl : k = n := by omega
      have HF : Hid (false = r) := Lib.hid (by
        rw [← HR.out, ← hh.out.2, List.take_of_length_le (by have := HN.out; omega)])
      have HB := Lib.hid hh.out.1
      subst hik
      clear hh
      go_wp2_with fail
      simp only [Exit.jump]
      go_ret
      exact ⟨ret_bool HF.out, HB⟩
  · intro hpass
    go_wp2_with fail
    go_step3
    rename_i hK
    exact hK _ _ (hpass.out _ _ ⟨_, 0, _, _, _, _, _, _, _, _, _, _, _, _, rfl, rfl, by omega, Lib.hid ⟨Below.refl _ _, rfl⟩⟩)

set_option maxRecDepth 100000 in
theorem spl1_yes (a : Sp) (w : World) :
    Calls Tryd.prog 31 #[spV a, spV a] w fun e w' => e = .returned (.bool true) ∧ Below w.heap.size w w' := by
  go_enter Tryd.func31, Tryd.ntmps31
  go_wp2_with fail
  go_ret
  exact ⟨rfl, ((Below.refl _ _).alloc (Nat.le_refl _) _).alloc (by simp) _⟩

set_option maxRecDepth 100000 in
theorem spl1_no (a b : Sp) (w : World) (h : a ≠ b) :
    Calls Tryd.prog 31 #[spV a, spV b] w fun e w' => e = .returned (.bool false) ∧ Below w.heap.size w w' := by
  obtain ⟨x1, y1, p1, q1⟩ := a
  obtain ⟨x2, y2, p2, q2⟩ := b
  have htl : ∀ l, (tx l).toList = l := fun l => by rw [toList_bs]; rfl
  by_cases h1 : x1 = x2
  · subst h1
    by_cases h2 : y1 = y2
    · subst h2
      by_cases h3 : p1 = p2
      · subst h3
        have h4 : (q1 == q2) = false := by rw [beq_eq_false_iff_ne]; exact fun e => h (by rw [e])
        clear h
        go_enter Tryd.func31, Tryd.ntmps31
        go_wp2_with fail
        go_ret
        exact ⟨rfl, ((Below.refl _ _).alloc (Nat.le_refl _) _).alloc (by simp) _⟩
      · have h3' : (p1 == p2) = false := by rw [beq_eq_false_iff_ne]; exact h3
        clear h h3
        go_enter Tryd.func31, Tryd.ntmps31
        go_wp2_with fail
        go_ret
        exact ⟨rfl, ((Below.refl _ _).alloc (Nat.le_refl _) _).alloc (by simp) _⟩
    · have h2' : (y1 == y2) = false := by rw [beq_eq_false_iff_ne]; exact h2
      clear h h2
      go_enter Tryd.func31, Tryd.ntmps31
      go_wp2_with fail
      go_ret
      exact ⟨rfl, ((Below.refl _ _).alloc (Nat.le_refl _) _).alloc (by simp) _⟩
  · have h1' : (x1 == x2) = false := by rw [beq_eq_false_iff_ne]; exact h1
    clear h h1
    go_enter Tryd.func31, Tryd.ntmps31
    go_wp2_with fail
    go_ret
    exact ⟨rfl, ((Below.refl _ _).alloc (Nat.le_refl _) _).alloc (by simp) _⟩

theorem spl1_c (a b : Sp) (w : World) (r : Bool) (h : decide (a = b) = r) :
    Calls Tryd.prog 31 #[spV a, spV b] w fun e w' => e = .returned (.bool r) ∧ Below w.heap.size w w' := by
  subst h
  by_cases h : a = b
  · subst h; rw [decide_eq_true rfl]; exact spl1_yes a w
  · rw [decide_eq_false h]; exact spl1_no a b w h

set_option maxRecDepth 100000 in
set_option maxHeartbeats 4000000 in
theorem SpSame_c (A1 A2 : Option Addr) (n1 n2 c1 c2 : Nat) (l1 l2 : List Sp) (w : World) (h1 : SpR w.heap.size w A1 n1 l1) (h2 : SpR w.heap.size w A2 n2 l2) (hm : n1 ≤ 1000000000) (hm2 : n2 ≤ 1000000000) (r : Bool) (hr : decide (l1 = l2) = r) :
    Calls Tryd.prog 30 #[.slice A1 n1 c1, .slice A2 n2 c2, .func (.func 31) #[] #[]] w fun e w' => e = .returned (.bool r) ∧ Below w.heap.size w w' := by
  by_cases hn : n1 = n2
  · subst hn
    have HR := Lib.hid hr
    have H1 := Lib.hid h1
    have H2 := Lib.hid h2
    clear hr h1 h2
    go_enter Tryd.func30, Tryd.ntmps30
    go_wp2_with fail
    go_loopw [7] (fun i wr => ∃ k : Nat, k ≤ n1 ∧ i = .int .i64 k ∧ Hid (Below w.heap.size w wr ∧ ∀ j (hj : j < l1.length) (hj2 : j < l2.length), j < k → l1[j] = l2[j])) (fun i _ => n1 - (intOf i).toNat)
    case atStart => exact ⟨0, Nat.zero_le _, rfl, Lib.hid ⟨Below.refl _ _, fun j _ _ h => by omega⟩⟩
    case round =>
      obtain ⟨k, hk, rfl, hh⟩ := hrel
      by_cases hlt : k < n1
      · have e1 := H1.out.1
        have e2 := H2.out.1
        obtain ⟨g1, o1, rfl, z1, a0, a1, a2, a3⟩ := (H1.out.below hh.out.1).2 k (by omega)
        obtain ⟨g2, o2, rfl, z2, b0, b1, b2, b3⟩ := (H2.out.below hh.out.1).2 k (by omega)
        obtain ⟨x, hx⟩ : ∃ x, l1[k] = x := ⟨_, rfl⟩
        obtain ⟨y, hy⟩ : ∃ y, l2[k] = y := ⟨_, rfl⟩
        rw [hx] at a0 a1 a2 a3
        rw [hy] at b0 b1 b2 b3
        obtain ⟨d, hd⟩ : ∃ d, decide (x = y) = d := ⟨_, rfl⟩
        have HD := Lib.hid hd
        cases d with
        | true =>
          have hxy : x = y := of_decide_eq_true hd
          have HN : Hid (∀ j (hj : j < l1.length) (hj2 : j < l2.length), j < k + 1 → l1[j] = l2[j]) := Lib.hid fun j hj hj2 hjk => by
            by_cases e : j = k
            · subst e; rw [hx, hy]; exact hxy
            · exact hh.out.2 j hj hj2 (by omega)
          have HB := Lib.hid hh.out.1
          clear hd hxy hx hy hh e1 e2
          go_wp2_with fail
          go_region_with (go_at_call 31; refine (spl1_c x y _ true HD.out).mono ?_; rintro e w2 ⟨rfl, hb2⟩)
          all_goals (have HB2 : Hid (Below w.heap.size w w2) := Lib.hid (below_drew_trans HB.out hb2))
          all_goals (go_wp2_with fail; go_roundw)
          all_goals first | exact ⟨k + 1, by omega, by go_num, Lib.hid ⟨HB2.out, HN.out⟩⟩ | (simp [intOf]; omega)
        | false =>
          have hxy : ¬ x = y := of_decide_eq_false hd
          have HF : Hid (false = r) := Lib.hid (by
            rw [← HR.out]
            refine (decide_eq_false fun e => hxy ?_).symm
            rw [← hx, ← hy]
            simp only [e])
          have HB := Lib.hid hh.out.1
          clear hd hxy hx hy hh e1 e2
          go_wp2_with fail
          go_region_with (go_at_call 31; refine (spl1_c x y _ false HD.out).mono ?_; rintro e w2 ⟨rfl, hb2⟩)
          all_goals (have HB2 : Hid (Below w.heap.size w w2) := Lib.hid (below_drew_trans HB.out hb2))
          all_goals (go_wp2_with fail; go_ret)
          all_goals exact ⟨ret_bool HF.out, HB2.out⟩
      · have HF : Hid (true = r) := Lib.hid (by
          rw [← HR.out]
          refine (decide_eq_true ?_).symm
          have e1 := H1.out.1
          have e2 := H2.out.1
          exact List.ext_getElem (by omega) fun j hj hj2 => hh.out.2 j hj hj2 (by omega))
        have HB := Lib.hid hh.out.1
        clear hh
        go_wp2_with fail
        go_ret
        exact ⟨ret_bool HF.out, HB.out⟩
  · have hne : ¬ (n1 : Int) = (n2 : Int) := by omega
    have hne2 : ((n1 : Int) != (n2 : Int)) = true := by rw [bne_iff_ne]; exact hne
    have HF : Hid (false = r) := Lib.hid (by
      rw [← hr]
      refine (decide_eq_false fun e => hn ?_).symm
      rw [h1.1, h2.1, e])
    clear hn hr h1 h2 hne
    go_enter Tryd.func30, Tryd.ntmps30
    go_wp2_with fail
    go_ret
    exact ⟨ret_bool HF.out, Below.refl _ _⟩

set_option maxRecDepth 100000 in
theorem SpPlain_c (A1 A2 : Option Addr) (n1 n2 c1 c2 : Nat) (l1 l2 : List Sp) (w : World) (B1 B2 : Nat) (h1 : SpR B1 w A1 n1 l1) (hB1 : B1 ≤ w.heap.size) (h2 : SpR B2 w A2 n2 l2) (hB2 : B2 ≤ w.heap.size) (hm : n1 ≤ 1000000000) (hm2 : n2 ≤ 1000000000) (r : Bool) (hr : decide (l1 = l2) = r) :
    Calls Tryd.prog 16 #[.slice A1 n1 c1, .slice A2 n2 c2] w fun e w' => e = .returned (.bool r) ∧ Hid (Below w.heap.size w w') := by
  have H1 := Lib.hid (h1.mono hB1)
  have H2 := Lib.hid (h2.mono hB2)
  have HR := Lib.hid hr
  clear h1 h2 hr hB1 hB2
  go_enter Tryd.func16, Tryd.ntmps16
  go_wp2_with fail
  refine (SpSame_c A1 A2 n1 n2 c1 c2 l1 l2 w H1.out H2.out hm hm2 r HR.out).mono ?_
  rintro e w2 ⟨rfl, hb2⟩
  go_wp2_with fail
  go_ret
  exact ⟨rfl, hb2⟩
end Go.Proofs.YtbpcoiblddhnjaaDoor
