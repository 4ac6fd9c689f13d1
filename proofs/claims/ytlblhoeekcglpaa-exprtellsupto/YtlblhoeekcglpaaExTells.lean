/-
  The walk of ExprTells.
-/
import Derived.Test.YtlblhoeekcglpaaExAwake
namespace Nwl
/-- what a text is told as: the pieces, and the error -/
def toldE (l : List UInt8) : List Pc × Int := match splitX l with
  | none => ([], 17)
  | some ps => (ps, 0)
theorem split_count : ∀ (k : Nat) (l : List UInt8) (ps : List Pc), l.length ≤ k → splitX l = some ps → ps.length ≤ l.length
  | _, [], ps, _, h => by
    rw [splitX_nil] at h
    injection h with h
    subst h; exact Nat.le_refl _
  | 0, a :: l, ps, hn, h => by simp at hn
  | k + 1, a :: l, ps, hn, h => by
    cases hc : cutP (a :: l) with
    | none => rw [splitX_none (by simp) hc] at h; cases h
    | some x =>
      obtain ⟨p, r⟩ := x
      rw [splitX_some (by simp) hc] at h
      have hr := writE_pos hc
      cases hs : splitX r with
      | none => rw [hs] at h; cases h
      | some qs =>
        rw [hs] at h
        injection h with h
        subst h
        have := split_count k r qs (by simp only [List.length_cons] at hr hn; omega) hs
        simp only [List.length_cons] at hr ⊢
        omega
end Nwl
namespace Go.Proofs.Ytlblhoeekcglpaa
open Nwl
open Go.RowKit Go.Maps
set_option linter.unusedVariables false
set_option linter.unusedSimpArgs false

/-- what Split tells, whatever it is -/
theorem exPost_any {l : List UInt8} {w w' : World} {e : Ending} (h : ExPost l w e w') : ∃ (A : Option Addr) (n c : Nat), e = .returned (.tuple #[.slice A n c, .int .i64 (toldE l).2]) ∧ Hid (PcR w'.heap.size w' A n (toldE l).1 ∧ Below w.heap.size w w' ∧ n ≤ l.length) := by
  unfold ExPost at h
  unfold toldE
  cases hs : splitX l with
  | none =>
    rw [hs] at h
    exact ⟨none, 0, 0, h.1, Lib.hid ⟨PcR.nil _ _ _, h.2, Nat.zero_le _⟩⟩
  | some ps =>
    rw [hs] at h
    obtain ⟨A, c, he, ho, hb⟩ := h
    exact ⟨A, ps.length, c, he, Lib.hid ⟨ho.r, hb, split_count _ l ps (Nat.le_refl _) hs⟩⟩

set_option maxRecDepth 100000 in
set_option maxHeartbeats 4000000 in
theorem tells10_small (L : List UInt8) (A : Option Addr) (n c : Nat) (l : List Pc) (w : World) (hL : L.length ≤ 1000) (h : PcR w.heap.size w A n l) (hA : A = none → n = 0 ∧ c = 0) (hn : n ≤ 50) (hj : (joinE l).length ≤ 140737488355000) (hg : GlobE w) :
    Calls Try.prog 3 #[.string (tx L), .slice A n c] w fun e w' => e = .returned (.bool true) ∧ Below w.heap.size w w' := by
  have k1 : ¬ (1000 : Int) < ((tx L).size : Int) := by rw [tx_size]; omega
  have k2 : ¬ (50 : Int) < (n : Int) := by omega
  have H := Lib.hid h
  have HA := Lib.hid hA
  have HG := Lib.hid hg
  obtain ⟨r, hr⟩ : ∃ r, joinE l = r := ⟨_, rfl⟩
  obtain ⟨b, hb⟩ : ∃ b, hasE L = b := ⟨_, rfl⟩
  have HR := Lib.hid hr
  have HB0 := Lib.hid hb
  have HJ := Lib.hid hj
  have HL := Lib.hid hL
  have HN := Lib.hid hn
  have htl := tlx
  clear h hA hg hr hb hj hL
  go_enter Try.func3, Try.ntmps3
  go_wp2_with fail
  refine (ESplit_c L _ (by have := HL.out; omega) HG.out).mono ?_
  intro e w1 hp
  obtain ⟨A1, n1, c1, rfl, hp1⟩ := exPost_any hp
  clear hp
  generalize hk : (toldE L).2 = k at *
  generalize hq : (toldE L).1 = q at *
  have HK := Lib.hid hk
  have HQ := Lib.hid hq
  clear hk hq
  go_wp2_with fail
  refine (RSplit_c L _ (by have := HL.out; omega)).mono ?_
  intro e w2 hp
  obtain ⟨A2, n2, c2, rfl, hp2⟩ := exPost_any hp
  clear hp
  rw [HQ.out] at hp2
  rw [HK.out]
  have B2 := Lib.hid (hp1.out.2.1.trans (hp2.out.2.1.mono hp1.out.2.1.size))
  have P1 := Lib.hid (hp1.out.1.on hp2.out.2.1)
  have P2 := Lib.hid hp2.out.1
  have N1 : Hid (n1 ≤ 1000 ∧ n2 ≤ 1000) := Lib.hid ⟨Nat.le_trans hp1.out.2.2 HL.out, Nat.le_trans hp2.out.2.2 HL.out⟩
  clear hp1 hp2
  go_wp2_with fail
  refine (POwn_c A n c l ⟨false, [55, 49]⟩ _ (H.out.on B2.out) HA.out (by have := HN.out; omega)).mono ?_
  rintro e w3 ⟨rfl, hO⟩
  have B3 := Lib.hid (B2.out.trans (hO.out.2.mono B2.out.size))
  have P13 := Lib.hid (P1.out.on hO.out.2)
  have P23 := Lib.hid (P2.out.on hO.out.2)
  have O3 := Lib.hid hO.out.1
  clear hO P1 P2
  obtain ⟨g, hgb⟩ : ∃ g, w2.heap.size + 1 = g := ⟨_, rfl⟩
  rw [hgb] at O3 ⊢
  clear hgb
  go_wp2_with fail
  refine (awake10_c _ (HG.out.below B3.out)).mono ?_
  rintro e w4 ⟨rfl, b4⟩
  have B4 := Lib.hid (B3.out.trans (b4.out.mono B3.out.size))
  have P14 := Lib.hid (P13.out.on b4.out)
  have P24 := Lib.hid (P23.out.on b4.out)
  have O4 := Lib.hid (O3.out.on b4.out)
  clear b4 P13 P23 O3
  go_wp2_with fail
  refine (PPlain_c A1 A2 n1 n2 c1 c2 q q _ P14.out P24.out (by have := N1.out; omega) (by have := N1.out; omega) true (by simp)).mono ?_
  rintro e w5 ⟨rfl, b5⟩
  have B5 := Lib.hid (B4.out.trans (b5.out.mono B4.out.size))
  have O5 := Lib.hid (O4.out.on b5.out)
  clear b5 O4 P14 P24
  have hkk : (k == k) = true := beq_self_eq_true k
  go_wp2_with fail
  have OL : Hid (PcR w5.heap.size w5 (some ⟨g, 0, none⟩) n l) := Lib.hid ⟨H.out.1, fun j hj => by
    obtain ⟨g', o', e, hg, hc⟩ := O5.out.2 j (by simp; omega)
    rw [List.getElem_append_left hj] at hc
    exact ⟨g', o', e, hg, hc⟩⟩
  refine (EJoin_c (some ⟨g, 0, none⟩) n (n + 3) l _ _ (Nat.le_refl _) OL.out (by have := HN.out; omega) (by have := HJ.out; omega) r HR.out).mono ?_
  rintro e w6 ⟨rfl, b6⟩
  have B6 := Lib.hid (B5.out.trans (b6.out.mono B5.out.size))
  have O6 := Lib.hid (O5.out.on b6.out)
  clear b6 O5 OL
  go_wp2_with fail
  refine (rJoin_c A n c l _ (H.out.on B6.out) (by have := HN.out; omega) (by have := HJ.out; omega) r HR.out).mono ?_
  rintro e w' ⟨rfl, rfl⟩
  have hrr : (r == r) = true := beq_self_eq_true r
  go_wp2_with fail
  refine (EHas_c L _ (by have := HL.out; omega) (HG.out.below B6.out) b HB0.out).mono ?_
  rintro e w' ⟨rfl, rfl⟩
  go_wp2_with fail
  refine (rHas_c L _ (by have := HL.out; omega) b HB0.out).mono ?_
  rintro e w' ⟨rfl, rfl⟩
  have hbb : (b == b) = true := beq_self_eq_true b
  go_wp2_with fail
  refine (PKept_c g A n c l ⟨false, [55, 49]⟩ _ O6.out (H.out.on B6.out) (by have := HN.out; omega)).mono ?_
  rintro e w7 ⟨rfl, b7⟩
  have B7 := Lib.hid (B6.out.trans (b7.out.mono B6.out.size))
  go_wp2_with fail
  go_ret
  exact ⟨rfl, B7.out⟩

set_option maxRecDepth 100000 in
set_option maxHeartbeats 4000000 in
theorem ExprTells_walk (s : ByteArray) (A : Option Addr) (n c : Nat) (l : List Pc) (w : World) (hs : s.size ≤ maxLen) (h : PcR w.heap.size w A n l) (hA : A = none → n = 0 ∧ c = 0) (hn : n ≤ maxLen) (hj : (joinE l).length ≤ 140737488355000) (hg : GlobE w) :
    Calls Try.prog 3 #[.string s, .slice A n c] w fun e w' => e = .returned (.bool true) ∧ Below w.heap.size w w' := by
  by_cases hsm : s.size ≤ 1000 ∧ n ≤ 50
  · exact tells10_small (bs s) A n c l w (by rw [bs_length]; exact hsm.1) h hA hsm.2 hj hg
  · have hways : (1000 : Int) < (s.size : Int) ∨ (¬ (1000 : Int) < (s.size : Int) ∧ (50 : Int) < (n : Int)) := by omega
    have HG := Lib.hid hg
    clear hsm h hA hj hg hs hn
    rcases hways with h1 | ⟨h1, h2⟩
    all_goals
      go_enter Try.func3, Try.ntmps3
      go_wp2_with fail
      refine (awake10_c _ HG.out).mono ?_
      rintro e w2 ⟨rfl, b2⟩
      go_wp2_with fail
      go_ret
      exact ⟨rfl, b2.out⟩
end Go.Proofs.Ytlblhoeekcglpaa
