/-
  The contract of span.Both.
-/
import Derived.Test.YtbpcoiblddhnjaaDoorSpMeet
import Derived.Test.YtbpcoiblddhnjaaDoorSpParse2
import Derived.Deep.CutRange
namespace Nwl
open Go
/-- what Both has come to -/
def bothAt (x y : List Sp) (i k : Nat) : List Sp := bothL (x.take i) y ++ (match x[i]? with
  | some s => bothO s (y.take k)
  | none => [])
theorem bothL_app (a b y : List Sp) : bothL (a ++ b) y = bothL a y ++ bothL b y := by simp [bothL]
theorem bothO_app (s : Sp) (a b : List Sp) : bothO s (a ++ b) = bothO s a ++ bothO s b := by simp [bothO]
theorem bothAt_row (x y : List Sp) (i : Nat) (h : i < x.length) : bothAt x y i y.length = bothAt x y (i + 1) 0 := by
  unfold bothAt
  rw [List.getElem?_eq_getElem h, List.take_length, ← List.take_append_getElem h, bothL_app]
  have e1 : bothL [x[i]] y = bothO x[i] y := by simp [bothL]
  rw [e1]
  cases x[i + 1]? with
  | none => simp
  | some s => simp [bothO]
theorem bothAt_step (x y : List Sp) (i k : Nat) (h : i < x.length) (hk : k < y.length) : bothAt x y i (k + 1) = bothAt x y i k ++ (if mayB (meetS x[i] y[k]) then [meetS x[i] y[k]] else []) := by
  unfold bothAt
  rw [List.getElem?_eq_getElem h, ← List.take_append_getElem hk]
  dsimp only
  rw [bothO_app, List.append_assoc]
  congr 1
  unfold bothO
  rw [List.map_cons, List.map_nil]
  cases hm : mayB (meetS x[i] y[k]) with
  | true => rw [List.filter_cons_of_pos hm]; rfl
  | false => rw [List.filter_cons_of_neg (by rw [hm]; decide)]; rfl
theorem bothAt_end (x y : List Sp) : bothAt x y x.length 0 = bothL x y := by
  unfold bothAt
  rw [List.take_length, List.getElem?_eq_none (Nat.le_refl _), List.append_nil]
theorem bothAt_zero (x y : List Sp) : bothAt x y 0 0 = [] := by
  unfold bothAt
  rw [List.take_zero]
  cases x[0]? with
  | none => rfl
  | some s => simp [bothO, bothL]
theorem tight_len (a b : List UInt8 × Bool) (side : Int) (k : Nat) (ha : a.1.length ≤ k) (hb : b.1.length ≤ k) : (tightS a b side).1.length ≤ k := by
  unfold tightS
  repeat' split
  all_goals assumption
end Nwl
namespace Go.Proofs.YtbpcoiblddhnjaaDoor
open Nwl
open Go.RowKit Go.Maps
set_option linter.unusedVariables false
set_option linter.unusedSimpArgs false

theorem spr_at2 {B g o n : Nat} {w : World} {l : List Sp} {k : Nat} {x : Sp} (h : SpR B w (some ⟨g, o, none⟩) n l) (hk : k < l.length) (hx : l[k] = x) : w.cell? ⟨g, o + k * 4, none⟩ = some (.string (tx x.lo)) ∧ w.cell? ⟨g, o + k * 4 + 1, none⟩ = some (.string (tx x.hi)) ∧ w.cell? ⟨g, o + k * 4 + 2, none⟩ = some (.bool x.il) ∧ w.cell? ⟨g, o + k * 4 + 3, none⟩ = some (.bool x.ih) := by
  obtain ⟨g', o', he, hg, c0, c1, c2, c3⟩ := h.2 k hk
  injection he with he
  injection he with e1 e2
  subst e1 e2
  rw [hx] at c0 c1 c2 c3
  exact ⟨c0, c1, c2, c3⟩
/-- the meet under way, in its box -/
def MW (wc W : World) (b : Nat) (x : Sp) : Prop := wc.heap.size ≤ b ∧ Blk W b 39 #[.string (tx x.lo), .string (tx x.hi), .bool x.il, .bool x.ih] ∧ Below wc.heap.size wc W
/-- where Both stands -/
def BoAt (w w' : World) (x y : List Sp) (i k : Nat) (A : Option Addr) (n c : Nat) : Prop :=
  SpRow w.heap.size w' A n c (bothAt x y i k) ∧ Below w.heap.size w w' ∧ n ≤ i * y.length + k ∧ SpShort (bothAt x y i k)

set_option maxRecDepth 100000 in
set_option maxHeartbeats 8000000 in
theorem Both_c (A1 A2 : Option Addr) (n1 n2 c1 c2 : Nat) (x y : List Sp) (w : World) (B : Nat) (hB : B ≤ w.heap.size) (h1 : SpR B w A1 n1 x) (h2 : SpR B w A2 n2 y) (hm1 : n1 ≤ 100) (hm2 : n2 ≤ 100) (s1 : SpShort x) (s2 : SpShort y) :
    Calls Tryd.prog 11 #[.slice A1 n1 c1, .slice A2 n2 c2] w fun e w' => Hid (∃ A n c, e = .returned (.slice A n c) ∧ SpRow w.heap.size w' A n c (bothL x y) ∧ SpShort (bothL x y) ∧ n ≤ 10100 ∧ Below w.heap.size w w') := by
  have H1 := Lib.hid h1
  have H2 := Lib.hid h2
  have N1 : Hid (n1 = x.length) := Lib.hid h1.1
  have N2 : Hid (n2 = y.length) := Lib.hid h2.1
  have S1 := Lib.hid s1
  have S2 := Lib.hid s2
  have HBB := Lib.hid hB
  obtain ⟨i0, hi, hz0, hz1, hz2⟩ := info_parts2 info_sp
  clear h1 h2 s1 s2 hB
  go_enter Tryd.func11, Tryd.ntmps11
  go_wp2_with fail
  refine wp_scope_again 0 (fun a' w' => ∃ (i k : Nat) (A : Option Addr) (n c : Nat) (u8 u9 u10 u11 u12 u13 u14 u15 u16 u17 u18 u19 u20 u21 u22 u23 u24 u25 u26 u27 u28 u29 u30 u31 u32 u33 u34 u35 u36 : Value), a' = { tmps := #[.slice A1 n1 c1, .slice A2 n2 c2, undef, undef, .slice none 0 0, .slice A n c, .int .i64 (i : Int), .int .i64 (k : Int), u8, u9, u10, u11, u12, u13, u14, u15, u16, u17, u18, u19, u20, u21, u22, u23, u24, u25, u26, u27, u28, u29, u30, u31, u32, u33, u34, u35, u36], defers := [] } ∧ i ≤ n1 ∧ k ≤ n2 ∧ (i = n1 → k = 0) ∧ Hid (BoAt w w' x y i k A n c)) (fun a' _ => (n1 - (intOf (a'.tmps.getD 6 undef)).toNat) * (n2 + 2) + (n2 - (intOf (a'.tmps.getD 7 undef)).toNat)) rfl ?_ ?_
  · rintro a' wr ⟨i, k, A, n, c, u8, u9, u10, u11, u12, u13, u14, u15, u16, u17, u18, u19, u20, u21, u22, u23, u24, u25, u26, u27, u28, u29, u30, u31, u32, u33, u34, u35, u36, rfl, hin, hkn, hik, hh⟩
    by_cases hi1 : i = n1
    · obtain rfl := hik hi1
      subst hi1
      have HE : Hid (∃ A n c, (Ending.returned (.slice A n c) : Ending) = .returned (.slice A n c) ∧ True) := Lib.hid ⟨A, n, c, rfl, trivial⟩
      have HROW : Hid (SpRow w.heap.size wr A n c (bothL x y) ∧ SpShort (bothL x y) ∧ n ≤ 10100 ∧ Below w.heap.size w wr) := Lib.hid (by
        obtain ⟨p1, p2, p3, p4⟩ := hh.out
        have e : bothAt x y i 0 = bothL x y := by rw [N1.out]; exact bothAt_end x y
        rw [e] at p1 p4
        refine ⟨p1, p4, ?_, p2⟩
        have : i * y.length ≤ 100 * 100 := Nat.mul_le_mul hm1 (by rw [← N2.out]; exact hm2)
        omega)
      clear hh HE
      go_wp2_with fail
      simp only [Exit.jump]
      go_ret
      exact Lib.hid ⟨A, n, c, rfl, HROW.out⟩
    · have hilt : i < n1 := by omega
      have hne1 : ((i : Int) == (n1 : Int)) = false := by rw [beq_eq_false_iff_ne]; omega
      have hix : i < x.length := by have := N1.out; omega
      by_cases hk1 : k = n2
      · subst hk1
        have HNX : Hid (BoAt w wr x y (i + 1) 0 A n c) := Lib.hid (by
          obtain ⟨p1, p2, p3, p4⟩ := hh.out
          have e : bothAt x y i k = bothAt x y (i + 1) 0 := by rw [N2.out]; exact bothAt_row x y i hix
          rw [e] at p1 p4
          refine ⟨p1, p2, ?_, p4⟩
          rw [Nat.succ_mul]
          have := N2.out
          omega)
        clear hh
        go_wp2_with fail
        go_step3
        refine ⟨rfl, ⟨i + 1, 0, A, n, c, _, _, _, _, _, _, _, _, _, _, _, _, _, _, _, _, _, _, _, _, _, _, _, _, _, _, _, _, _, rfl, by omega, by omega, fun _ => rfl, HNX⟩, ?_⟩
        simp [intOf]
        have e1 : n1 - i = (n1 - (i + 1)) + 1 := by omega
        rw [e1, Nat.succ_mul]
        omega
      · have hklt : k < n2 := by omega
        have hne2 : ((k : Int) == (n2 : Int)) = false := by rw [beq_eq_false_iff_ne]; omega
        have hky : k < y.length := by have := N2.out; omega
        obtain ⟨s, hs⟩ : ∃ s, x[i] = s := ⟨_, rfl⟩
        obtain ⟨t, ht⟩ : ∃ s, y[k] = s := ⟨_, rfl⟩
        have HSS : Hid (s.lo.length ≤ 1000 ∧ s.hi.length ≤ 1000) := Lib.hid (by rw [← hs]; exact S1.out _ (List.getElem_mem hix))
        have HTT : Hid (t.lo.length ≤ 1000 ∧ t.hi.length ≤ 1000) := Lib.hid (by rw [← ht]; exact S2.out _ (List.getElem_mem hky))
        obtain ⟨m, hm⟩ : ∃ m, meetS s t = m := ⟨_, rfl⟩
        have HM := Lib.hid hm
        have HML : Hid (m.lo.length ≤ 1000 ∧ m.hi.length ≤ 1000) := Lib.hid (by
          rw [← hm]
          exact ⟨tight_len _ _ _ _ HSS.out.1 HTT.out.1, tight_len _ _ _ _ HSS.out.2 HTT.out.2⟩)
        have HSTEP : Hid (bothAt x y i (k + 1) = bothAt x y i k ++ (if mayB m then [m] else [])) := Lib.hid (by
          rw [bothAt_step x y i k hix hky, hs, ht, hm])
        have HBEL : Hid (Below w.heap.size w wr) := Lib.hid hh.out.2.1
        obtain ⟨g1, o1, rfl, hg1, hcc⟩ := (H1.out.below (HBEL.out.mono HBB.out)).2 i hix
        clear hcc
        obtain ⟨g2, o2, rfl, hg2, hcc⟩ := (H2.out.below (HBEL.out.mono HBB.out)).2 k hky
        clear hcc
        have hbz : Below B wr (wr.alloc (.cells #[.string ⟨#[]⟩, .string ⟨#[]⟩, .bool false, .bool false] 39)) := ((Below.refl _ _).alloc (Nat.le_refl _) _).mono (Nat.le_trans HBB.out HBEL.out.size)
        obtain ⟨a0, a1, a2, a3⟩ := spr_at2 (H1.out.below (HBEL.out.mono HBB.out)) hix hs
        obtain ⟨b0, b1, b2, b3'⟩ := spr_at2 (H2.out.below (HBEL.out.mono HBB.out)) hky ht
        obtain ⟨p0, p1, p2, p3⟩ := spr_at2 ((H1.out.below (HBEL.out.mono HBB.out)).below hbz) hix hs
        obtain ⟨q0, q1, q2, q3⟩ := spr_at2 ((H2.out.below (HBEL.out.mono HBB.out)).below hbz) hky ht
        have X0 : Hid (KB wr (wr.alloc (.cells #[.string ⟨#[]⟩, .string ⟨#[]⟩, .bool false, .bool false] 39)).drew (.string ⟨#[]⟩) (.string ⟨#[]⟩) (.bool false) (.bool false)) := Lib.hid ⟨Blk.new wr _ _, ((Below.refl _ _).alloc (Nat.le_refl _) _).drew⟩
        clear hs ht hm hbz
        go_upto_region 7 with fail
        go_cut [8] from 9 to 36 (fun v wx => ∃ b, v = .pointer (some ⟨b, 0, none⟩) ∧ Hid (MW wr wx b m))
        case first =>
            refine wp_region_any (by kernel_rfl) ?_
            change wpAny _ _ _ _ _ _ _ (World.drew _)
            refine wpAny_take (i := 0) (v := .slice (some ⟨g1, o1, none⟩) n1 c1) rfl (by kernel_rfl) (by kernel_rfl) (by kernel_rfl) (fun _ _ _ h => h) (Or.inl ⟨by rfl, fun W => by go_simp⟩) ?_
            simp only [Act.put, List.getElem_toArray, List.getElem_cons_zero, List.getElem_cons_succ, List.setIfInBounds_toArray, List.set_cons_zero, List.set_cons_succ]
            refine wpAny_take (i := 1) (v := .int .i64 (i : Int)) rfl (by kernel_rfl) (by kernel_rfl) (by kernel_rfl) (fun _ _ _ h => h) (Or.inl ⟨by rfl, fun W => by go_simp⟩) ?_
            simp only [Act.put, List.getElem_toArray, List.getElem_cons_zero, List.getElem_cons_succ, List.setIfInBounds_toArray, List.set_cons_zero, List.set_cons_succ]
            refine wpAny_take (i := 2) (v := .pointer (some ⟨g1, o1 + i * 4, none⟩)) rfl (by kernel_rfl) (by kernel_rfl) (by kernel_rfl) (fun _ _ _ h => h) (Or.inl ⟨by rfl, fun W => by (go_simp)⟩) ?_
            simp only [Act.put, List.getElem_toArray, List.getElem_cons_zero, List.getElem_cons_succ, List.setIfInBounds_toArray, List.set_cons_zero, List.set_cons_succ]
            refine wpAny_take (i := 4) (v := .slice (some ⟨g2, o2, none⟩) n2 c2) rfl (by kernel_rfl) (by kernel_rfl) (by kernel_rfl) (fun _ _ _ h => h) (Or.inl ⟨by rfl, fun W => by go_simp⟩) ?_
            simp only [Act.put, List.getElem_toArray, List.getElem_cons_zero, List.getElem_cons_succ, List.setIfInBounds_toArray, List.set_cons_zero, List.set_cons_succ]
            refine wpAny_take (i := 5) (v := .int .i64 (k : Int)) rfl (by kernel_rfl) (by kernel_rfl) (by kernel_rfl) (fun _ _ _ h => h) (Or.inl ⟨by rfl, fun W => by go_simp⟩) ?_
            simp only [Act.put, List.getElem_toArray, List.getElem_cons_zero, List.getElem_cons_succ, List.setIfInBounds_toArray, List.set_cons_zero, List.set_cons_succ]
            refine wpAny_take (i := 6) (v := .pointer (some ⟨g2, o2 + k * 4, none⟩)) rfl (by kernel_rfl) (by kernel_rfl) (by kernel_rfl) (fun _ _ _ h => h) (Or.inl ⟨by rfl, fun W => by (go_simp)⟩) ?_
            simp only [Act.put, List.getElem_toArray, List.getElem_cons_zero, List.getElem_cons_succ, List.setIfInBounds_toArray, List.set_cons_zero, List.set_cons_succ]
            refine wpAny_ready (rs := [3, 7, 9]) (by kernel_rfl) (by simp) ?_
            refine AllReady.cons rfl (fun K hK => ?_) (AllReady.cons rfl (fun K hK => ?_) (AllReady.cons rfl (fun K hK => ?_) AllReady.nil))
            · go_simp
              refine hK _ _ ?_
              clear hK K
              refine wpAny_ready (rs := [7, 9]) (by kernel_rfl) (by simp) ?_
              refine AllReady.cons rfl (fun K hK => ?_) (AllReady.cons rfl (fun K hK => ?_) AllReady.nil)
              · go_simp
                refine hK _ _ ?_
                clear hK K
                refine wpAny_ready (rs := [8, 9]) (by kernel_rfl) (by simp) ?_
                refine AllReady.cons rfl (fun K hK => ?_) (AllReady.cons rfl (fun K hK => ?_) AllReady.nil)
                · go_simp
                  go_wp2_with (go_at_call 21; refine (meet_c s t _ HSS.out HTT.out m HM.out).mono ?_; rintro e3 w3 ⟨rfl, b3⟩)
                  refine wpAny_ready (rs := [9]) (by kernel_rfl) (by simp) ?_
                  refine AllReady.cons rfl (fun K hK => ?_) AllReady.nil
                  · go_simp
                    refine hK _ _ ?_
                    clear hK K
                    refine wpAny_ready (rs := [10]) (by kernel_rfl) (by simp) ?_
                    refine AllReady.cons rfl (fun K hK => ?_) AllReady.nil
                    go_simp
                    refine hK _ _ ?_
                    clear hK K
                    refine wpAny_done (by kernel_rfl) ?_ _
                    go_wp2_with fail
                    go_meet
                    exact ⟨_, rfl, Lib.hid ⟨(below_d b3.out).size, Blk.new w3 _ _, (below_d b3.out).alloc (below_d b3.out).size _⟩⟩
                · go_simp
                  refine hK _ _ ?_
                  clear hK K
                  refine wpAny_ready (rs := [8]) (by kernel_rfl) (by simp) ?_
                  refine AllReady.cons rfl (fun K hK => ?_) AllReady.nil
                  · go_simp
                    go_wp2_with (go_at_call 21; refine (meet_c s t _ HSS.out HTT.out m HM.out).mono ?_; rintro e3 w3 ⟨rfl, b3⟩)
                    have X1 := KB.step X0 b3
                    obtain ⟨k0, k1, k2, k3⟩ := KB.rd X1
                    obtain ⟨f0, f1, f2, f3⟩ := KB.fz X1
                    have XP := KB.put X1 (.string (tx m.lo)) (.string (tx m.hi)) (.bool m.il) (.bool m.ih)
                    refine wpAny_ready (rs := [10]) (by kernel_rfl) (by simp) ?_
                    refine AllReady.cons rfl (fun K hK => ?_) AllReady.nil
                    go_simp
                    refine hK _ _ ?_
                    clear hK K
                    refine wpAny_done (by kernel_rfl) ?_ _
                    go_wp2_with fail
                    go_meet
                    exact ⟨_, rfl, Lib.hid ⟨Nat.le_refl _, XP.out.1, XP.out.2⟩⟩
              · go_simp
                refine hK _ _ ?_
                clear hK K
                refine wpAny_ready (rs := [7]) (by kernel_rfl) (by simp) ?_
                refine AllReady.cons rfl (fun K hK => ?_) AllReady.nil
                · go_simp
                  refine hK _ _ ?_
                  clear hK K
                  refine wpAny_ready (rs := [8]) (by kernel_rfl) (by simp) ?_
                  refine AllReady.cons rfl (fun K hK => ?_) AllReady.nil
                  · go_simp
                    go_wp2_with (go_at_call 21; refine (meet_c s t _ HSS.out HTT.out m HM.out).mono ?_; rintro e3 w3 ⟨rfl, b3⟩)
                    have X1 := KB.step X0 b3
                    obtain ⟨k0, k1, k2, k3⟩ := KB.rd X1
                    obtain ⟨f0, f1, f2, f3⟩ := KB.fz X1
                    have XP := KB.put X1 (.string (tx m.lo)) (.string (tx m.hi)) (.bool m.il) (.bool m.ih)
                    refine wpAny_ready (rs := [10]) (by kernel_rfl) (by simp) ?_
                    refine AllReady.cons rfl (fun K hK => ?_) AllReady.nil
                    go_simp
                    refine hK _ _ ?_
                    clear hK K
                    refine wpAny_done (by kernel_rfl) ?_ _
                    go_wp2_with fail
                    go_meet
                    exact ⟨_, rfl, Lib.hid ⟨Nat.le_refl _, XP.out.1, XP.out.2⟩⟩
            · go_simp
              refine hK _ _ ?_
              clear hK K
              refine wpAny_ready (rs := [3, 9]) (by kernel_rfl) (by simp) ?_
              refine AllReady.cons rfl (fun K hK => ?_) (AllReady.cons rfl (fun K hK => ?_) AllReady.nil)
              · go_simp
                refine hK _ _ ?_
                clear hK K
                refine wpAny_ready (rs := [8, 9]) (by kernel_rfl) (by simp) ?_
                refine AllReady.cons rfl (fun K hK => ?_) (AllReady.cons rfl (fun K hK => ?_) AllReady.nil)
                · go_simp
                  go_wp2_with (go_at_call 21; refine (meet_c s t _ HSS.out HTT.out m HM.out).mono ?_; rintro e3 w3 ⟨rfl, b3⟩)
                  refine wpAny_ready (rs := [9]) (by kernel_rfl) (by simp) ?_
                  refine AllReady.cons rfl (fun K hK => ?_) AllReady.nil
                  · go_simp
                    refine hK _ _ ?_
                    clear hK K
                    refine wpAny_ready (rs := [10]) (by kernel_rfl) (by simp) ?_
                    refine AllReady.cons rfl (fun K hK => ?_) AllReady.nil
                    go_simp
                    refine hK _ _ ?_
                    clear hK K
                    refine wpAny_done (by kernel_rfl) ?_ _
                    go_wp2_with fail
                    go_meet
                    exact ⟨_, rfl, Lib.hid ⟨(below_d b3.out).size, Blk.new w3 _ _, (below_d b3.out).alloc (below_d b3.out).size _⟩⟩
                · go_simp
                  refine hK _ _ ?_
                  clear hK K
                  refine wpAny_ready (rs := [8]) (by kernel_rfl) (by simp) ?_
                  refine AllReady.cons rfl (fun K hK => ?_) AllReady.nil
                  · go_simp
                    go_wp2_with (go_at_call 21; refine (meet_c s t _ HSS.out HTT.out m HM.out).mono ?_; rintro e3 w3 ⟨rfl, b3⟩)
                    have X1 := KB.step X0 b3
                    obtain ⟨k0, k1, k2, k3⟩ := KB.rd X1
                    obtain ⟨f0, f1, f2, f3⟩ := KB.fz X1
                    have XP := KB.put X1 (.string (tx m.lo)) (.string (tx m.hi)) (.bool m.il) (.bool m.ih)
                    refine wpAny_ready (rs := [10]) (by kernel_rfl) (by simp) ?_
                    refine AllReady.cons rfl (fun K hK => ?_) AllReady.nil
                    go_simp
                    refine hK _ _ ?_
                    clear hK K
                    refine wpAny_done (by kernel_rfl) ?_ _
                    go_wp2_with fail
                    go_meet
                    exact ⟨_, rfl, Lib.hid ⟨Nat.le_refl _, XP.out.1, XP.out.2⟩⟩
              · go_simp
                refine hK _ _ ?_
                clear hK K
                refine wpAny_ready (rs := [3]) (by kernel_rfl) (by simp) ?_
                refine AllReady.cons rfl (fun K hK => ?_) AllReady.nil
                · go_simp
                  refine hK _ _ ?_
                  clear hK K
                  refine wpAny_ready (rs := [8]) (by kernel_rfl) (by simp) ?_
                  refine AllReady.cons rfl (fun K hK => ?_) AllReady.nil
                  · go_simp
                    go_wp2_with (go_at_call 21; refine (meet_c s t _ HSS.out HTT.out m HM.out).mono ?_; rintro e3 w3 ⟨rfl, b3⟩)
                    have X1 := KB.step X0 b3
                    obtain ⟨k0, k1, k2, k3⟩ := KB.rd X1
                    obtain ⟨f0, f1, f2, f3⟩ := KB.fz X1
                    have XP := KB.put X1 (.string (tx m.lo)) (.string (tx m.hi)) (.bool m.il) (.bool m.ih)
                    refine wpAny_ready (rs := [10]) (by kernel_rfl) (by simp) ?_
                    refine AllReady.cons rfl (fun K hK => ?_) AllReady.nil
                    go_simp
                    refine hK _ _ ?_
                    clear hK K
                    refine wpAny_done (by kernel_rfl) ?_ _
                    go_wp2_with fail
                    go_meet
                    exact ⟨_, rfl, Lib.hid ⟨Nat.le_refl _, XP.out.1, XP.out.2⟩⟩
            · go_simp
              refine hK _ _ ?_
              clear hK K
              refine wpAny_ready (rs := [3, 7]) (by kernel_rfl) (by simp) ?_
              refine AllReady.cons rfl (fun K hK => ?_) (AllReady.cons rfl (fun K hK => ?_) AllReady.nil)
              · go_simp
                refine hK _ _ ?_
                clear hK K
                refine wpAny_ready (rs := [7]) (by kernel_rfl) (by simp) ?_
                refine AllReady.cons rfl (fun K hK => ?_) AllReady.nil
                · go_simp
                  refine hK _ _ ?_
                  clear hK K
                  refine wpAny_ready (rs := [8]) (by kernel_rfl) (by simp) ?_
                  refine AllReady.cons rfl (fun K hK => ?_) AllReady.nil
                  · go_simp
                    go_wp2_with (go_at_call 21; refine (meet_c s t _ HSS.out HTT.out m HM.out).mono ?_; rintro e3 w3 ⟨rfl, b3⟩)
                    have X1 := KB.step X0 b3
                    obtain ⟨k0, k1, k2, k3⟩ := KB.rd X1
                    obtain ⟨f0, f1, f2, f3⟩ := KB.fz X1
                    have XP := KB.put X1 (.string (tx m.lo)) (.string (tx m.hi)) (.bool m.il) (.bool m.ih)
                    refine wpAny_ready (rs := [10]) (by kernel_rfl) (by simp) ?_
                    refine AllReady.cons rfl (fun K hK => ?_) AllReady.nil
                    go_simp
                    refine hK _ _ ?_
                    clear hK K
                    refine wpAny_done (by kernel_rfl) ?_ _
                    go_wp2_with fail
                    go_meet
                    exact ⟨_, rfl, Lib.hid ⟨Nat.le_refl _, XP.out.1, XP.out.2⟩⟩
              · go_simp
                refine hK _ _ ?_
                clear hK K
                refine wpAny_ready (rs := [3]) (by kernel_rfl) (by simp) ?_
                refine AllReady.cons rfl (fun K hK => ?_) AllReady.nil
                · go_simp
                  refine hK _ _ ?_
                  clear hK K
                  refine wpAny_ready (rs := [8]) (by kernel_rfl) (by simp) ?_
                  refine AllReady.cons rfl (fun K hK => ?_) AllReady.nil
                  · go_simp
                    go_wp2_with (go_at_call 21; refine (meet_c s t _ HSS.out HTT.out m HM.out).mono ?_; rintro e3 w3 ⟨rfl, b3⟩)
                    have X1 := KB.step X0 b3
                    obtain ⟨k0, k1, k2, k3⟩ := KB.rd X1
                    obtain ⟨f0, f1, f2, f3⟩ := KB.fz X1
                    have XP := KB.put X1 (.string (tx m.lo)) (.string (tx m.hi)) (.bool m.il) (.bool m.ih)
                    refine wpAny_ready (rs := [10]) (by kernel_rfl) (by simp) ?_
                    refine AllReady.cons rfl (fun K hK => ?_) AllReady.nil
                    go_simp
                    refine hK _ _ ?_
                    clear hK K
                    refine wpAny_done (by kernel_rfl) ?_ _
                    go_wp2_with fail
                    go_meet
                    exact ⟨_, rfl, Lib.hid ⟨Nat.le_refl _, XP.out.1, XP.out.2⟩⟩
        case rest =>
        obtain ⟨b, rfl, hmw⟩ := hcut
        obtain ⟨hr1, hr2, hr3, hr4⟩ := hh.out
        have HROW := Lib.hid (hr1.below hmw.out.2.2)
        have HBE2 := Lib.hid (hr2.trans (hmw.out.2.2.mono hr2.size))
        have HBOX := Lib.hid hmw.out.2.1
        have HNN : Hid (n ≤ i * y.length + k) := Lib.hid hr3
        have HSH := Lib.hid hr4
        have hnb : n ≤ 10100 := by
          have : i * y.length ≤ 100 * 100 := Nat.mul_le_mul (by omega) (by rw [← N2.out]; exact hm2)
          omega
        clear hh hr1 hr2 hr3 hr4 hmw a0 a1 a2 a3 b0 b1 b2 b3' p0 p1 p2 p3 q0 q1 q2 q3 X0 HBEL
        obtain ⟨q, hq⟩ : ∃ q, mayB m = q := ⟨_, rfl⟩
        have HQ := Lib.hid hq
        clear hq
        obtain ⟨k0, k1, k2, k3⟩ := blk4 HBOX.out
        have hki : IntKind.i64.wrap ((k : Int) + 1) = (k : Int) + 1 := by
          simp [IntKind.wrap, IntKind.bits, IntKind.signed]
          omega
        go_wp2_with fail
        refine (mayBe_c m _ HML.out.1 HML.out.2 q HQ.out).mono ?_
        rintro e4 w4 ⟨rfl, b4⟩
        have R4 := Lib.hid (HROW.out.below b4.out)
        have B4 := Lib.hid (HBE2.out.trans (b4.out.mono HBE2.out.size))
        have X4 := Lib.hid (HBOX.out.below b4.out)
        clear k0 k1 k2 k3
        obtain ⟨k0, k1, k2, k3⟩ := blk4 X4.out
        clear b4 HROW HBE2 HBOX
        cases q with
        | false =>
          have HNX : Hid (BoAt w w4 x y i (k + 1) (A) n c) := Lib.hid (by
            have e : bothAt x y i (k + 1) = bothAt x y i k := by rw [HSTEP.out, HQ.out]; simp
            exact ⟨by rw [e]; exact R4.out, B4.out, by have := HNN.out; omega, by rw [e]; exact HSH.out⟩)
          go_wp2_with fail
          go_step3
          refine ⟨rfl, ⟨i, k + 1, A, n, c, _, _, _, _, _, _, _, _, _, _, _, _, _, _, _, _, _, _, _, _, _, _, _, _, _, _, _, _, _, rfl, by omega, by omega, fun h => by omega, HNX⟩, ?_⟩
          simp [intOf]
          omega
        | true =>
          have R5 := Lib.hid (R4.out.below ((Below.refl _ _).alloc (Nat.le_refl _) (.cells #[.string (tx m.lo), .string (tx m.hi), .bool m.il, .bool m.ih] 39)))
          have HCS := Lib.hid R5.out.2
          have HNEWS := Lib.hid (cells4n w4 (.string (tx m.lo)) (.string (tx m.hi)) (.bool m.il) (.bool m.ih) 39)
          have hws := B4.out.size
          go_wp2_with (at_builtin; go_must (refine wpList_append_own_at _ rfl _ _ 22 rfl w.heap.size 39 i0 _ 4 40 Tryd.underlying22 hi hz0 hz1 hz2 rfl (by decide) _ n (spCells (bothAt x y i k)) rfl HCS.out ⟨w4.heap.size, 0, none⟩ 1 1 [.string (tx m.lo), .string (tx m.hi), .bool m.il, .bool m.ih] rfl rfl HNEWS.out (sp_oneCell _ _ _ _) (by unfold maxLen; omega) (by omega) (by simp; omega) ?_); intro v' w5 hown5 hgrow5 _ _; obtain ⟨A', c', rfl⟩ := own_form hown5)
          have HNX : Hid (BoAt w w5 x y i (k + 1) A' (n + 1) c') := Lib.hid (by
            have e : bothAt x y i (k + 1) = bothAt x y i k ++ [m] := by rw [HSTEP.out, HQ.out]; rfl
            refine ⟨⟨?_, ?_⟩, (B4.out.alloc hws _).grown hgrow5 (by simp; omega) (fun k hk => (HCS.out.lt k hk).1), by have := HNN.out; omega, ?_⟩
            · rw [e, List.length_append, ← R5.out.1]; rfl
            · rw [e, spCells_app]; exact hown5
            · rw [e]; exact sp_short_app HSH.out HML.out.1 HML.out.2)
          go_step3
          refine ⟨rfl, ⟨i, k + 1, A', n + 1, c', _, _, _, _, _, _, _, _, _, _, _, _, _, _, _, _, _, _, _, _, _, _, _, _, _, _, _, _, _, rfl, by omega, by omega, fun h => by omega, HNX⟩, ?_⟩
          simp [intOf]
          omega
  · intro hpass
    go_wp2_with fail
    go_step3
    rename_i hK
    exact hK _ _ (hpass.out _ _ ⟨0, 0, none, 0, 0, _, _, _, _, _, _, _, _, _, _, _, _, _, _, _, _, _, _, _, _, _, _, _, _, _, _, _, _, _, rfl, by omega, by omega, fun _ => rfl, Lib.hid ⟨by rw [bothAt_zero]; exact SpRow.nil _ _, Below.refl _ _, by omega, by rw [bothAt_zero]; exact fun s hs => by simp at hs⟩⟩)
end Go.Proofs.YtbpcoiblddhnjaaDoor
