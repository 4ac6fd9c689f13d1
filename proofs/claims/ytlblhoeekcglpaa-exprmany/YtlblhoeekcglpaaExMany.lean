/-
  The walk of ExprMany.
-/
import Derived.Test.YtlblhoeekcglpaaExHas
import Derived.Test.YtlblhoeekcglpaaGnDigits
import Derived.Deep.CutRange
namespace Nwl
/-- the name, or the text, of a number -/
def numE (i : Nat) : List UInt8 := 110 :: decF 2 i
theorem numE_ok (i : Nat) : (numE i).all (fun b => !barB b) = true := by
  rw [List.all_eq_true]
  intro c hc
  rcases List.mem_cons.1 hc with rfl | hc
  · decide
  · obtain ⟨h1, h2⟩ := decF_dig 2 i c hc
    cases hb : barB c with
    | false => rfl
    | true =>
      rcases bar_yes hb with rfl | rfl | rfl
      · revert h1; decide
      · revert h2; decide
      · revert h2; decide
theorem numE_ne (i : Nat) : numE i ≠ [] := by simp [numE]
theorem numE_len (i : Nat) : (numE i).length ≤ 3 := by
  have := decF_le 2 i
  simp [numE]; omega
theorem snoc_len (ps : List Pc) (b : Bool) (n : List UInt8) : (snocE ps b n).length ≤ ps.length + 1 := by
  unfold snocE
  split
  · simp
  · split
    · simp
    · simp
theorem snoc_name (ps : List Pc) (n : List UInt8) : snocE ps true n = ps ++ [⟨true, n⟩] := rfl
theorem snoc_nil (n : List UInt8) : snocE [] false n = [⟨false, n⟩] := rfl
theorem snoc_text {ps ys : List Pc} {t : List UInt8} (h : ps = ys ++ [⟨false, t⟩]) (n : List UInt8) : snocE ps false n = ys ++ [⟨false, t ++ n⟩] := by
  subst h
  unfold snocE
  rw [if_neg (by decide), List.getLast?_concat]
  simp
theorem snoc_behind {ps ys : List Pc} {t : List UInt8} (h : ps = ys ++ [⟨true, t⟩]) (n : List UInt8) : snocE ps false n = ps ++ [⟨false, n⟩] := by
  subst h
  unfold snocE
  rw [if_neg (by decide), List.getLast?_concat]
theorem writE_len3 (b : Bool) (n : List UInt8) (h : n.length ≤ 3) : (writE ⟨b, n⟩).length ≤ 6 := by
  have : (writE ⟨b, n⟩).length ≤ n.length + 3 := by cases b <;> simp [writE]
  omega
end Nwl
namespace Go.Proofs.Ytlblhoeekcglpaa
open Nwl
open Go.RowKit Go.Maps
set_option linter.unusedVariables false
set_option linter.unusedSimpArgs false

/-- the last text of a row of one's own written anew -/
theorem PcO.setText {B : Nat} {w : World} {g n c : Nat} {ys : List Pc} {q : Pc} (h : PcO B w (some ⟨g, 0, none⟩) n c (ys ++ [q])) (t : List UInt8) : PcO B (w.setCell ⟨g, ys.length * 2 + 1, none⟩ (.string (tx t))) (some ⟨g, 0, none⟩) n c (ys ++ [⟨q.nm, t⟩]) ∧ B ≤ g := by
  obtain ⟨hn, h⟩ := h
  have hg := (h.lt g rfl).1
  refine ⟨⟨by rw [hn]; simp, ?_⟩, hg⟩
  have := (h.stored (ys.length * 2 + 1) (.string (tx t))).1
  have e : (pcCells (ys ++ [q])).set (ys.length * 2 + 1) (.string (tx t)) = pcCells (ys ++ [⟨q.nm, t⟩]) := by
    rw [pcCells_app, pcCells_app, List.set_append_right _ _ (by rw [pcCells_len]; omega), pcCells_len, show ys.length * 2 + 1 - ys.length * 2 = 1 by omega]
    rfl
  rw [e] at this
  exact this
theorem PcO.at {B : Nat} {w : World} {A : Option Addr} {n c : Nat} {l : List Pc} (h : PcO B w A n c l) (hn : 0 < n) : ∃ g, A = some ⟨g, 0, none⟩ ∧ ∀ j, w.frozen? ⟨g, j, none⟩ = false := by
  obtain ⟨_, h0⟩ := h
  rcases h0.2 with ⟨hv, h1⟩ | ⟨g, cap, cur, hv, hg, hh, hc, hm, hs, ht⟩
  · omega
  · injection hv with e1 e2 e3
    subst e1 e3
    exact ⟨g, rfl, fun j => h0.frozenAt j⟩
/-- what is under way -/
def MnAt (w wx : World) (A : Option Addr) (i m c : Nat) (ps : List Pc) : Prop := PcO w.heap.size wx A m c ps ∧ Below w.heap.size w wx ∧ okP ps = true ∧ m ≤ i ∧ (joinE ps).length ≤ 6 * i
theorem MnAt.step {w W' : World} {A2 : Option Addr} {i m c2 m2 : Nat} {ps ps2 : List Pc} {b : Bool} (h1 : okP ps = true) (h2 : m ≤ i) (h3 : (joinE ps).length ≤ 6 * i) (hm : m = ps.length) (he : snocE ps b (numE i) = ps2) (ho : PcO w.heap.size W' A2 m2 c2 ps2) (hb : Below w.heap.size w W') : MnAt w W' A2 (i + 1) m2 c2 ps2 := by
  subst he
  refine ⟨ho, hb, snoc_ok h1 (numE_ok i) (numE_ne i), ?_, ?_⟩
  · have := snoc_len ps b (numE i)
    have := ho.1
    omega
  · rw [snoc_join, List.length_append]
    have := writE_len3 b (numE i) (numE_len i)
    omega

set_option maxRecDepth 100000 in
set_option maxHeartbeats 8000000 in
theorem ExprMany_walk (A : Option Addr) (n c : Nat) (w : World) (hn : n ≤ maxLen) (h : ∀ j, j < n → ∃ b o z, A = some ⟨b, o, none⟩ ∧ b < w.heap.size ∧ w.cell? ⟨b, o + j, none⟩ = some (.bool z)) (hg : GlobE w) :
    Calls Try.prog 5 #[.slice A n c] w fun e w' => e = .returned (.bool true) ∧ Below w.heap.size w w' := by
  have HG := Lib.hid hg
  have H := Lib.hid h
  have HN := Lib.hid hn
  clear hg h
  go_enter Try.func5, Try.ntmps5
  go_wp2_with fail
  go_loopw [3, 4, 5] (fun sv wv iv wx => ∃ (i m c2 : Nat) (A2 : Option Addr) (ps : List Pc) (s : ByteArray), i ≤ n ∧ i ≤ 40 ∧ iv = .int .i64 i ∧ wv = .slice A2 m c2 ∧ sv = .string s ∧ Hid (s = tx (joinE ps)) ∧ Hid (MnAt w wx A2 i m c2 ps)) (fun _ _ iv _ => 40 - (intOf iv).toNat)
  case atStart => exact ⟨0, 0, 0, none, [], ⟨#[]⟩, Nat.zero_le _, Nat.zero_le _, rfl, rfl, rfl, Lib.hid rfl, Lib.hid ⟨PcO.nil _ _, Below.refl _ _, rfl, Nat.le_refl _, by simp [joinE]⟩⟩
  case round =>
    obtain ⟨i, m, c2, A2, ps, s, hi, hi40, rfl, rfl, rfl, HS, hh⟩ := hrel
    by_cases hlt : i < n ∧ i < 40
    · obtain ⟨hin, hi4⟩ := hlt
      have hinI : (i : Int) < (n : Int) := by omega
      have hi4I : (i : Int) < 40 := by omega
      obtain ⟨b, o, z, rfl, hb, hc⟩ := H.out i hin
      have HO := Lib.hid hh.out.1
      have HB := Lib.hid hh.out.2.1
      have H3 := Lib.hid hh.out.2.2.1
      have H4 := Lib.hid hh.out.2.2.2.1
      have H5 := Lib.hid hh.out.2.2.2.2
      have HMP : Hid (m = ps.length) := Lib.hid hh.out.1.1
      have hs300 : s.size ≤ 300 := by rw [HS.out, tx_size]; have := H5.out; omega
      have hm9 : m ≤ 99999 := by have := H4.out; omega
      have hT : (⟨#[110]⟩ : ByteArray) ++ tx (decF 2 i) = tx (numE i) := bs_inj (by rw [bs_append]; rfl)
      have hT3 : (tx (numE i)).size ≤ 3 := by rw [tx_size]; exact numE_len i
      have hw1 : IntKind.i64.wrap ((i : Int) + 1) = (i : Int) + 1 := by
        simp [IntKind.wrap, IntKind.bits, IntKind.signed]
        omega
      have z0 : ¬ 9223372036854775807 < 1 + (tx (decF 2 i)).size := by rw [tx_size]; have := decF_le 2 i; omega
      clear hh hi
      go_wp2_with fail
      refine (Digits_c 2 i _ (by omega) (by decide) (by decide)).mono ?_
      rintro e w1 ⟨rfl, b1⟩
      have HB1 := Lib.hid (HB.out.trans (b1.mono HB.out.size))
      have HO1 := Lib.hid (HO.out.below b1)
      have hc1 : w1.cell? ⟨b, o + i, none⟩ = some (.bool z) := (HB1.out.cell (p := ⟨b, o + i, none⟩) hb).trans hc
      clear b1 HB HO hc
      go_upto_region 7 with fail
      clear hT z0
      generalize hTT : tx (numE i) = T at *
      have HTT := Lib.hid hTT
      clear hTT
      cases z with
      | true =>
        have z1 : ¬ 9223372036854775807 < s.size + 1 := by omega
        have z2 : ¬ 9223372036854775807 < s.size + 1 + 1 := by omega
        have z3 : ¬ 9223372036854775807 < s.size + 1 + 1 + T.size := by omega
        have z4 : ¬ 9223372036854775807 < s.size + 1 + 1 + T.size + 1 := by omega
        obtain ⟨A3, c3, W', hr, ho3, hb3⟩ := pc_snoc HO1.out HB1.out.size ⟨true, numE i⟩ hm9
        dsimp only at hr
        rw [HTT.out] at hr
        have HRUN := Lib.hid hr
        have HS3 : Hid ((((s ++ ⟨#[36]⟩) ++ ⟨#[123]⟩) ++ T) ++ ⟨#[125]⟩ = tx (joinE (ps ++ [⟨true, numE i⟩]))) := Lib.hid (bs_inj (by
          rw [HS.out, ← HTT.out, joinE_app]
          simp only [bs_append, bs_tx]
          show joinE ps ++ [36] ++ [123] ++ numE i ++ [125] = joinE ps ++ joinE [⟨true, numE i⟩]
          simp [joinE, writE]))
        have HM3 : Hid (MnAt w W' A3 (i + 1) (m + 1) c3 (ps ++ [⟨true, numE i⟩])) := Lib.hid (MnAt.step (b := true) H3.out H4.out H5.out HMP.out (snoc_name ps _) ho3 (HB1.out.trans hb3))
        clear hr ho3 hb3 HO1 HB1 H3 H4 H5
        go_wp2_with (at_builtin; refine wpl_app rfl _ _ _ rfl _ _ _ rfl rfl HRUN.out ?_)
        go_roundw
        case rel => exact ⟨i + 1, m + 1, c3, A3, ps ++ [⟨true, numE i⟩], _, by omega, by omega, by go_num, rfl, rfl, HS3, HM3⟩
        case measure => simp [intOf]; omega
      | false =>
        have z1 : ¬ 9223372036854775807 < s.size + T.size := by omega
        have HS3 : Hid (s ++ T = tx (joinE (snocE ps false (numE i)))) := Lib.hid (bs_inj (by
          rw [HS.out, ← HTT.out, snoc_join]
          simp only [bs_append, bs_tx]
          rfl))
        rcases List.eq_nil_or_concat ps with hps | ⟨ys, q, hps⟩
        · subst hps
          obtain rfl : m = 0 := HMP.out
          obtain ⟨A3, c3, W', hr, ho3, hb3⟩ := pc_snoc HO1.out HB1.out.size ⟨false, numE i⟩ hm9
          dsimp only at hr
          rw [HTT.out] at hr
          have HRUN := Lib.hid hr
          have HM3 : Hid (MnAt w W' A3 (i + 1) (0 + 1) c3 (snocE [] false (numE i))) := Lib.hid (MnAt.step (b := false) H3.out H4.out H5.out HMP.out rfl ho3 (HB1.out.trans hb3))
          clear hr ho3 hb3 HO1 HB1 H3 H4 H5
          go_wp2_with (at_builtin; refine wpl_app rfl _ _ _ rfl _ _ _ rfl rfl HRUN.out ?_)
          go_roundw
          case rel => exact ⟨i + 1, 0 + 1, c3, A3, snocE [] false (numE i), _, by omega, by omega, by go_num, rfl, rfl, HS3, HM3⟩
          case measure => simp [intOf]; omega
        · rw [List.concat_eq_append] at hps
          have hml : m = ys.length + 1 := by rw [HMP.out, hps]; simp
          obtain ⟨g, rfl, hfz⟩ := HO1.out.at (by omega)
          have hql : ys.length < ps.length := by rw [hps]; simp
          obtain ⟨g', o', e, hg', c0, c1⟩ := HO1.out.r.2 ys.length hql
          injection e with e
          injection e with e1 e2 _
          subst e1 e2
          have hpq : ps[ys.length]'hql = q := by simp [hps]
          rw [hpq, Nat.zero_add] at c0 c1
          have f1 := hfz (ys.length * 2 + 1)
          have hwm : IntKind.i64.wrap ((ys.length : Int) + 1 - 1) = (ys.length : Int) := by
            simp [IntKind.wrap, IntKind.bits, IntKind.signed]
            omega
          have hwm2 : IntKind.i64.wrap (ys.length : Int) = (ys.length : Int) := by
            simp [IntKind.wrap, IntKind.bits, IntKind.signed]
            omega
          have HPS := Lib.hid hps
          obtain ⟨qn, qt⟩ := q
          dsimp only at c0 c1
          clear hpq hql hfz hg'
          subst hml
          obtain ⟨k, hk⟩ : ∃ k, ys.length = k := ⟨_, rfl⟩
          have HK := Lib.hid hk
          rw [hk] at c0 c1 f1 hwm hwm2 HO1 HMP hm9 H4 ⊢
          clear hk hps
          have hk0 : (0 : Int) ≤ (k : Int) := by omega
          have hkm : (k : Int) < (k : Int) + 1 := by omega
          cases qn with
          | true =>
            obtain ⟨A3, c3, W', hr, ho3, hb3⟩ := pc_snoc HO1.out HB1.out.size ⟨false, numE i⟩ hm9
            dsimp only at hr
            rw [HTT.out] at hr
            have HRUN := Lib.hid hr
            have HM3 : Hid (MnAt w W' A3 (i + 1) (k + 1 + 1) c3 (snocE ps false (numE i))) := Lib.hid (MnAt.step (b := false) H3.out H4.out H5.out HMP.out rfl (by rw [snoc_behind HPS.out]; exact ho3) (HB1.out.trans hb3))
            clear hr ho3 hb3 HO1 HB1 H3 H4 H5
            go_wp2_with (at_builtin; refine wpl_app rfl _ _ _ rfl _ _ _ rfl rfl HRUN.out ?_)
            go_roundw
            case rel => exact ⟨i + 1, k + 1 + 1, c3, A3, snocE ps false (numE i), _, by omega, by omega, by go_num, by go_num, rfl, HS3, HM3⟩
            case measure => simp [intOf]; omega
          | false =>
            have hqt : qt.length ≤ 300 := by
              have := H5.out
              rw [HPS.out, joinE_app, List.length_append] at this
              have h2 := wr_le ⟨false, qt⟩
              simp [joinE] at this h2
              omega
            have z2 : ¬ 9223372036854775807 < (tx qt).size + T.size := by rw [tx_size]; omega
            have hq2 : tx qt ++ T = tx (qt ++ numE i) := bs_inj (by rw [← HTT.out, bs_append]; rfl)
            have HST := PcO.setText (q := ⟨false, qt⟩) (ys := ys) (by rw [← HPS.out]; exact HO1.out) (qt ++ numE i)
            rw [HK.out] at HST
            have HM3 : Hid (MnAt w (w1.setCell ⟨g, k * 2 + 1, none⟩ (.string (tx (qt ++ numE i)))) (some ⟨g, 0, none⟩) (i + 1) (k + 1) c2 (snocE ps false (numE i))) := Lib.hid (MnAt.step (b := false) H3.out H4.out H5.out HMP.out rfl (by rw [snoc_text HPS.out]; exact HST.1) (HB1.out.setCell (p := ⟨g, k * 2 + 1, none⟩) HST.2 _))
            clear HST HO1 HB1 H3 H4 H5
            go_wp2_with fail
            go_roundw
            case rel => exact ⟨i + 1, k + 1, c2, some ⟨g, 0, none⟩, snocE ps false (numE i), _, by omega, by omega, by go_num, by go_num, rfl, HS3, HM3⟩
            case measure => simp [intOf]; omega
    · have hcase : (¬ (i : Int) < (n : Int)) ∨ ((i : Int) < (n : Int) ∧ ¬ (i : Int) < 40) := by omega
      clear hlt
      go_upto_region 4 with fail
      go_cut [19] from 12 to 71 (fun v wx => v = .bool false ∧ Hid (MnAt w wx A2 i m c2 ps))
      case first =>
        rcases hcase with q1 | ⟨q1, q2⟩
        all_goals
          go_wp2_with fail
          go_meet
          exact ⟨rfl, hh⟩
      case rest =>
      clear hh hcase
      rename_i w2
      obtain ⟨rfl, hh⟩ := hcut
      have HO := Lib.hid hh.out.1
      have HB := Lib.hid hh.out.2.1
      have H3 := Lib.hid hh.out.2.2.1
      have H5 : Hid ((joinE ps).length ≤ 240) := Lib.hid (by have := hh.out.2.2.2.2; omega)
      have HMP : Hid (m = ps.length) := Lib.hid hh.out.1.1
      have hm4 : m ≤ 40 := by have := hh.out.2.2.2.1; omega
      have H1 : Hid (splitX (joinE ps) = some ps) := Lib.hid (by
        have := pcs_app ps [] H3.out (.inl rfl)
        rw [List.append_nil] at this
        rw [this, splitX_nil]; simp)
      have H2 : Hid (splitX (joinE ps ++ [36, 123, 120]) = none) := Lib.hid (by
        rw [pcs_app ps [36, 123, 120] H3.out (.inr rfl), show splitX [36, 123, 120] = none from by decide]; rfl)
      obtain ⟨J, hJ⟩ : ∃ J, joinE ps = J := ⟨_, rfl⟩
      rw [hJ] at H1 H2 H5
      have HJ := Lib.hid hJ
      have hsJ : s = tx J := by rw [HS.out, hJ]
      subst hsJ
      have hsz : (tx J).size ≤ 240 := by rw [tx_size]; exact H5.out
      have z1 : ¬ 9223372036854775807 < (tx J).size + 1 := by omega
      have z2 : ¬ 9223372036854775807 < (tx J).size + 1 + 2 := by omega
      have hadd : ((tx J ++ ⟨#[36]⟩) ++ ⟨#[123, 120]⟩) = tx (J ++ [36, 123, 120]) := bs_inj (by
        rw [bs_append, bs_append]
        show J ++ [36] ++ [123, 120] = J ++ [36, 123, 120]
        simp)
      have htl := tlx
      clear hh HS hJ H3
      go_wp2_with fail
      refine (ESplit_c J _ (by have := H5.out; omega) (HG.out.below HB.out)).mono ?_
      intro e w3 hp
      unfold ExPost at hp
      rw [H1.out] at hp
      obtain ⟨A3, c3, rfl, ho3, hb3⟩ := hp
      have HB3 := Lib.hid (HB.out.trans (hb3.mono HB.out.size))
      have P3 := Lib.hid ho3.r
      have O3 := Lib.hid (HO.out.below hb3)
      clear ho3 hb3
      rw [← HMP.out] at P3 ⊢
      go_wp2_with fail
      refine (ESplit_c (J ++ [36, 123, 120]) _ (by have := H5.out; simp; omega) (HG.out.below HB3.out)).mono ?_
      intro e w4 hp
      unfold ExPost at hp
      rw [H2.out] at hp
      obtain ⟨rfl, hb4⟩ := hp
      have HB4 := Lib.hid (HB3.out.trans (hb4.mono HB3.out.size))
      have P4 := Lib.hid (P3.out.on hb4)
      have O4 := Lib.hid (O3.out.below hb4)
      clear hb4 P3 O3 hadd z1 z2
      go_wp2_with fail
      refine (awake10_c _ (HG.out.below HB4.out)).mono ?_
      rintro e w5 ⟨rfl, b5⟩
      have HB5 := Lib.hid (HB4.out.trans (b5.out.mono HB4.out.size))
      have P5 := Lib.hid (P4.out.on b5.out)
      have O5 := Lib.hid (O4.out.below b5.out)
      clear b5 P4 O4
      go_wp2_with fail
      refine (PPlain_c A3 A2 m m c3 c2 ps ps _ P5.out O5.out.r (by omega) (by omega) true (by simp)).mono ?_
      rintro e w6 ⟨rfl, b6⟩
      have HB6 := Lib.hid (HB5.out.trans (b6.out.mono HB5.out.size))
      have P6 := Lib.hid (P5.out.on b6.out)
      clear b6 P5 O5
      go_wp2_with fail
      refine (EJoin_c A3 m c3 ps _ _ (Nat.le_refl _) P6.out (by omega) (by rw [HJ.out]; have := H5.out; omega) J HJ.out).mono ?_
      rintro e w7 ⟨rfl, b7⟩
      have HB7 := Lib.hid (HB6.out.trans (b7.out.mono HB6.out.size))
      have hrr : (J == J) = true := beq_self_eq_true J
      go_wp2_with fail
      go_ret
      exact ⟨rfl, HB7.out⟩
end Go.Proofs.Ytlblhoeekcglpaa
