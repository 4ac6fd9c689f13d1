/-
  Contracts of order.Words and order.Compare.
-/
import Derived.Test.YtbpcoiblddhnjaaDoorOrWord
import Derived.Test.YtbpcoiblddhnjaaDoorWdAwake
import Derived.Deep.CutRange
namespace Nwl
open Go
theorem wordsC_end (a b : List Wz) (i : Nat) (h1 : a.length ≤ i) (h2 : b.length ≤ i) : wordsC (a.drop i) (b.drop i) = 0 := by
  rw [List.drop_of_length_le h1, List.drop_of_length_le h2]; rfl
theorem wordsC_go (a b : List Wz) (i : Nat) : wordsC (a.drop i) (b.drop i) = thenI (cmpZ ((a.drop i).headD nZ) ((b.drop i).headD nZ)) (wordsC (a.drop (i + 1)) (b.drop (i + 1))) := by
  rw [wordsC_step, List.tail_drop, List.tail_drop]
def ShortW (l : List Wz) : Prop := ∀ x ∈ l, x.t.length ≤ maxLen
theorem ShortW.head {l : List Wz} (h : ShortW l) (i : Nat) : ((l.drop i).headD nZ).t.length ≤ maxLen := by
  rcases Nat.lt_or_ge i l.length with hi | hi
  · rw [List.drop_eq_getElem_cons hi]
    exact h _ (List.getElem_mem hi)
  · rw [List.drop_of_length_le hi]
    show 0 ≤ maxLen
    omega
end Nwl
namespace Go.Proofs.YtbpcoiblddhnjaaDoor
open Nwl
open Go.RowKit Go.Maps
set_option linter.unusedVariables false

set_option maxRecDepth 100000 in
set_option maxHeartbeats 2000000 in
theorem Words_c (A1 A2 : Option Addr) (n1 n2 c1 c2 : Nat) (l1 l2 : List Wz) (w : World) (B : Nat) (hB : B ≤ w.heap.size) (h1 : WzR B w A1 n1 l1) (h2 : WzR B w A2 n2 l2) (hm1 : n1 ≤ 1000000) (hm2 : n2 ≤ 1000000) (s1 : ShortW l1) (s2 : ShortW l2) (F : Int) (hF : wordsC l1 l2 = F) :
    Calls Tryd.prog 60 #[.slice A1 n1 c1, .slice A2 n2 c2] w fun e w' => e = .returned (.int .i64 F) ∧ Bd w w' := by
  have hF0 : wordsC (l1.drop 0) (l2.drop 0) = F := by rw [List.drop_zero, List.drop_zero]; exact hF
  have HF := Lib.hid hF0
  have HL : Hid (n1 = l1.length ∧ n2 = l2.length) := Lib.hid ⟨h1.1, h2.1⟩
  have H1 := Lib.hid h1
  have H2 := Lib.hid h2
  have S1 := Lib.hid s1
  have S2 := Lib.hid s2
  clear hF hF0 h1 h2 s1 s2
  go_enter Tryd.func60, Tryd.ntmps60
  go_wp2_with fail
  refine wp_scope_again 0 (fun a' w' => ∃ (i : Nat) (u6 u7 u8 u9 u10 u11 u12 u13 u14 u15 u16 u17 u18 u19 u20 u21 u22 u23 u24 u25 u26 u27 u28 : Value), a' = { tmps := #[.slice A1 n1 c1, .slice A2 n2 c2, undef, undef, .int .i64 0, .int .i64 i, u6, u7, u8, u9, u10, u11, u12, u13, u14, u15, u16, u17, u18, u19, u20, u21, u22, u23, u24, u25, u26, u27, u28], defers := [] } ∧ i ≤ 1000000 ∧ Hid (i ≤ n1 ∨ i ≤ n2) ∧ Hid (wordsC (l1.drop i) (l2.drop i) = F) ∧ Hid (Bd w w')) (fun a' _ => n1 + n2 - (intOf (a'.tmps.getD 5 undef)).toNat) rfl ?_ ?_
  · rintro a' w' ⟨i, u6, u7, u8, u9, u10, u11, u12, u13, u14, u15, u16, u17, u18, u19, u20, u21, u22, u23, u24, u25, u26, u27, u28, rfl, hi, hin, hgo, hbd⟩
    by_cases hend : n1 ≤ i ∧ n2 ≤ i
    · have e1 : n1 ≤ i := hend.1
      have e2 : n2 ≤ i := hend.2
      have hz : Hid (0 = F) := Lib.hid (by rw [← hgo.out, wordsC_end _ _ _ (by rw [← HL.out.1]; exact e1) (by rw [← HL.out.2]; exact e2)])
      clear hend hgo hin
      go_wp2_with fail
      simp only [Exit.jump]
      go_ret
      obtain rfl := hz.out
      exact ⟨rfl, hbd.out⟩
    · have hlt : i + 1 ≤ n1 ∨ i + 1 ≤ n2 := by omega
      obtain ⟨x, hx⟩ : ∃ x, (l1.drop i).headD nZ = x := ⟨_, rfl⟩
      obtain ⟨y, hy⟩ : ∃ y, (l2.drop i).headD nZ = y := ⟨_, rfl⟩
      have hg := hgo.out
      rw [wordsC_go, hx, hy] at hg
      have lx : Hid (x.t.length ≤ maxLen) := Lib.hid (by rw [← hx]; exact S1.out.head i)
      have ly : Hid (y.t.length ≤ maxLen) := Lib.hid (by rw [← hy]; exact S2.out.head i)
      have HX := Lib.hid hx
      have HY := Lib.hid hy
      obtain ⟨q, hq⟩ : ∃ q, cmpZ x y = q := ⟨_, rfl⟩
      rw [hq] at hg
      have HQ := Lib.hid hq
      have HG := Lib.hid hg
      have HLT := Lib.hid hlt
      have hBw : Hid (B ≤ w'.heap.size) := Lib.hid (Nat.le_trans hB hbd.out.1.size)
      have R1 := Lib.hid (H1.out.below (hbd.out.1.mono hB))
      have R2 := Lib.hid (H2.out.below (hbd.out.1.mono hB))
      have hm1' : n1 ≤ 1000000000 := by omega
      have hm2' : n2 ≤ 1000000000 := by omega
      have hi' : i ≤ 1000000000 := by omega
      clear hx hy hq hg hgo hlt
      by_cases hq0 : q = 0
      · subst hq0
        by_cases p1 : n1 ≤ i
        · have p2 : ¬ n2 ≤ i := fun h => hend ⟨p1, h⟩
          clear hend
          have hg2 : Hid (wordsC (l1.drop (i + 1)) (l2.drop (i + 1)) = F) := Lib.hid HG.out
          go_wp2_with fail
          refine (wordAt_c A1 n1 c1 i l1 _ B hBw.out R1.out hm1' hi' x HX.out).mono ?_
          rintro e w1 ⟨rfl, hb1⟩
          have Z2 : Hid (B ≤ w1.heap.size ∧ WzR B w1 A2 n2 l2) := Lib.hid ⟨Nat.le_trans hBw.out hb1.1.size, R2.out.below (hb1.1.mono hBw.out)⟩
          have K1 := Lib.hid hb1
          clear hb1
          go_wp2_with fail
          refine (wordAt_c A2 n2 c2 i l2 _ B Z2.out.1 Z2.out.2 hm2' hi' y HY.out).mono ?_
          rintro e w2 ⟨rfl, hb2⟩
          have K2 := Lib.hid (K1.out.trans hb2)
          clear hb2
          go_wp2_with fail
          refine (compareWord_c x y _ lx.out ly.out 0 HQ.out).mono ?_
          rintro e w3 ⟨rfl, hb3⟩
          have K3 := Lib.hid (hbd.out.trans (K2.out.trans hb3))
          clear hb3
          go_wp2_with fail
          go_step3
          refine ⟨rfl, ⟨i + 1, _, _, _, _, _, _, _, _, _, _, _, _, _, _, _, _, _, _, _, _, _, _, _, rfl, by have := HLT.out; omega, HLT, hg2, K3⟩, ?_⟩
          have := HLT.out
          simp [intOf]
          omega
        · clear hend
          have hg2 : Hid (wordsC (l1.drop (i + 1)) (l2.drop (i + 1)) = F) := Lib.hid HG.out
          go_wp2_with fail
          refine (wordAt_c A1 n1 c1 i l1 _ B hBw.out R1.out hm1' hi' x HX.out).mono ?_
          rintro e w1 ⟨rfl, hb1⟩
          have Z2 : Hid (B ≤ w1.heap.size ∧ WzR B w1 A2 n2 l2) := Lib.hid ⟨Nat.le_trans hBw.out hb1.1.size, R2.out.below (hb1.1.mono hBw.out)⟩
          have K1 := Lib.hid hb1
          clear hb1
          go_wp2_with fail
          refine (wordAt_c A2 n2 c2 i l2 _ B Z2.out.1 Z2.out.2 hm2' hi' y HY.out).mono ?_
          rintro e w2 ⟨rfl, hb2⟩
          have K2 := Lib.hid (K1.out.trans hb2)
          clear hb2
          go_wp2_with fail
          refine (compareWord_c x y _ lx.out ly.out 0 HQ.out).mono ?_
          rintro e w3 ⟨rfl, hb3⟩
          have K3 := Lib.hid (hbd.out.trans (K2.out.trans hb3))
          clear hb3
          go_wp2_with fail
          go_step3
          refine ⟨rfl, ⟨i + 1, _, _, _, _, _, _, _, _, _, _, _, _, _, _, _, _, _, _, _, _, _, _, _, rfl, by have := HLT.out; omega, HLT, hg2, K3⟩, ?_⟩
          have := HLT.out
          simp [intOf]
          omega
      · have hqf : Hid (q = F) := Lib.hid (by rw [← HG.out]; unfold thenI; rw [if_neg hq0])
        have e0 : (q != 0) = true := by rw [bne_iff_ne]; exact hq0
        by_cases p1 : n1 ≤ i
        · have p2 : ¬ n2 ≤ i := fun h => hend ⟨p1, h⟩
          clear hend
          go_wp2_with fail
          refine (wordAt_c A1 n1 c1 i l1 _ B hBw.out R1.out hm1' hi' x HX.out).mono ?_
          rintro e w1 ⟨rfl, hb1⟩
          have Z2 : Hid (B ≤ w1.heap.size ∧ WzR B w1 A2 n2 l2) := Lib.hid ⟨Nat.le_trans hBw.out hb1.1.size, R2.out.below (hb1.1.mono hBw.out)⟩
          have K1 := Lib.hid hb1
          clear hb1
          go_wp2_with fail
          refine (wordAt_c A2 n2 c2 i l2 _ B Z2.out.1 Z2.out.2 hm2' hi' y HY.out).mono ?_
          rintro e w2 ⟨rfl, hb2⟩
          have K2 := Lib.hid (K1.out.trans hb2)
          clear hb2
          go_wp2_with fail
          refine (compareWord_c x y _ lx.out ly.out q HQ.out).mono ?_
          rintro e w3 ⟨rfl, hb3⟩
          have K3 := Lib.hid (hbd.out.trans (K2.out.trans hb3))
          clear hb3
          go_wp2_with fail
          simp only [Exit.jump]
          go_ret
          obtain rfl := hqf.out
          exact ⟨rfl, K3.out⟩
        · clear hend
          go_wp2_with fail
          refine (wordAt_c A1 n1 c1 i l1 _ B hBw.out R1.out hm1' hi' x HX.out).mono ?_
          rintro e w1 ⟨rfl, hb1⟩
          have Z2 : Hid (B ≤ w1.heap.size ∧ WzR B w1 A2 n2 l2) := Lib.hid ⟨Nat.le_trans hBw.out hb1.1.size, R2.out.below (hb1.1.mono hBw.out)⟩
          have K1 := Lib.hid hb1
          clear hb1
          go_wp2_with fail
          refine (wordAt_c A2 n2 c2 i l2 _ B Z2.out.1 Z2.out.2 hm2' hi' y HY.out).mono ?_
          rintro e w2 ⟨rfl, hb2⟩
          have K2 := Lib.hid (K1.out.trans hb2)
          clear hb2
          go_wp2_with fail
          refine (compareWord_c x y _ lx.out ly.out q HQ.out).mono ?_
          rintro e w3 ⟨rfl, hb3⟩
          have K3 := Lib.hid (hbd.out.trans (K2.out.trans hb3))
          clear hb3
          go_wp2_with fail
          simp only [Exit.jump]
          go_ret
          obtain rfl := hqf.out
          exact ⟨rfl, K3.out⟩
  · intro hpass
    go_wp2_with fail
    go_step3
    rename_i hK
    exact hK _ _ (hpass.out _ _ ⟨0, _, _, _, _, _, _, _, _, _, _, _, _, _, _, _, _, _, _, _, _, _, _, _, rfl, by omega, Lib.hid (Or.inl (Nat.zero_le _)), HF, Lib.hid (Bd.refl w)⟩)
end Go.Proofs.YtbpcoiblddhnjaaDoor
