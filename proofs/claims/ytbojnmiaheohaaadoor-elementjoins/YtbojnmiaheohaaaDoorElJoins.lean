/-
  ElementJoins (layer 3).
-/
import Derived.Test.YtbojnmiaheohaaaDoorElJoinsM
namespace Nwl
open Go Go.RowKit
theorem modJ (a n : Int) (h0 : 0 < n) : 0 ≤ (IntKind.u64.wrap a).tmod n ∧ (IntKind.u64.wrap a).tmod n < n := by
  have hu : 0 ≤ IntKind.u64.wrap a := by rw [IntKind.wrap_u64]; omega
  rw [Int.tmod_eq_emod_of_nonneg hu]
  exact ⟨Int.emod_nonneg _ (by omega), Int.emod_lt_of_pos _ h0⟩
theorem txJ (a b : List UInt8) : tx a ++ tx b = tx (a ++ b) := by
  apply bs_inj
  rw [bs_append, bs_tx, bs_tx, bs_tx]
def wtOf (ks : List Nat) : Wt := ks.foldl wtStep ([], [])
theorem wtOf_snoc (ks : List Nat) (k : Nat) : wtOf (ks ++ [k]) = wtStep (wtOf ks) k := by simp [wtOf]
theorem joinB_snoc (ks : List Nat) (k : Nat) : joinB (ks ++ [k]) = joinB ks ++ pcB k := by unfold joinB; rw [pcsB_snoc, List.append_assoc]
def txtsC (l : List (List UInt8)) : List Value := l.map fun t => .string (tx t)
theorem txtsC_snoc (l : List (List UInt8)) (t : List UInt8) : txtsC (l ++ [t]) = txtsC l ++ [.string (tx t)] := by simp [txtsC]
theorem txtsC_one (l : List (List UInt8)) : ∀ u ∈ txtsC l, u.oneCell' = true := by
  intro u hu
  obtain ⟨t, _, rfl⟩ := List.mem_map.1 hu
  rfl
theorem wt_bound : ∀ (ks : List Nat) (s : Wt), (ks.foldl wtStep s).1.length ≤ s.1.length + 2 * ks.length ∧ (ks.foldl wtStep s).2.length ≤ s.2.length + 3 * ks.length
  | [], s => by simp
  | k :: r, s => by
    obtain ⟨h1, h2⟩ := wt_bound r (wtStep s k)
    have h3 := wt_len s k
    have h4 : (wtStep s k).2.length ≤ s.2.length + 3 := by
      unfold wtStep
      split
      · simp
      · split
        · simp
        · split <;> simp
    simp only [List.foldl_cons, List.length_cons]
    omega
theorem join_len (ks : List Nat) (h : ks.length ≤ 40) : (joinB ks).length ≤ 603 := by
  have := pcs_len ks
  simp only [joinB, List.length_append, List.length_cons, List.length_nil]
  omega
end Nwl
namespace Go.Proofs.YtbojnmiaheohaaaDoor
open Nwl
open Go.RowKit Go.Maps
set_option linter.unusedVariables false
theorem info_str : (Tryd.prog.info? 9).map (fun i => (i.zero, i.size, i.bytes)) = some (some (.string ⟨#[]⟩), 1, 16) := by kernel_rfl

set_option maxRecDepth 100000 in
set_option maxHeartbeats 1000000 in
theorem ElementJoins_walk (A : Option Addr) (n c : Nat) (w : World) (hn : n ≤ maxLen) (hr : ∀ j, j < n → ∃ b o z, A = some ⟨b, o, none⟩ ∧ b < w.heap.size ∧ w.cell? ⟨b, o + j, none⟩ = some (.int .i64 z)) (hg : Glob w) :
    Calls Tryd.prog 4 #[.slice A n c] w fun e w' => e = .returned (.bool true) ∧ Below w.heap.size w w' := by
  have HG := Lib.hid hg
  have HR := Lib.hid hr
  unfold maxLen at hn
  obtain ⟨i0, hi, hz0, hz1, hz2⟩ := info_parts info_str
  clear hg hr
  go_enter Tryd.func4, Tryd.ntmps4
  go_wp2_with fail
  go_loopw [3, 4, 5, 6] (fun sv wv tv iv wr => ∃ (ks : List Nat) (W : List (List UInt8)) (T : List UInt8), ks.length ≤ 40 ∧ ks.length ≤ n ∧ sv = .string (tx (joinB ks)) ∧ tv = .string (tx T) ∧ iv = .int .i64 (ks.length : Int) ∧ Hid ((W, T) = wtOf ks ∧ wr.ownsRow w.heap.size 9 1 wv W.length (txtsC W) ∧ Below w.heap.size w wr)) (fun _ _ _ iv _ => 40 - (intOf iv).toNat)
  case atStart => exact ⟨[], [], [], by simp, by simp, rfl, rfl, rfl, rfl, World.ownsRow_nil _ _ _ _, Below.refl _ _⟩
  case round =>
    obtain ⟨ks, W, T, hk40, hkn, rfl, rfl, rfl, hh⟩ := hrel
    obtain ⟨hwt, hown, hbel⟩ := hh.out
    clear hh
    have hwb := wt_bound ks ([], [])
    have hwb1 : W.length ≤ 80 ∧ T.length ≤ 120 := by
      have e : wtOf ks = ks.foldl wtStep ([], []) := rfl
      rw [← e, ← hwt] at hwb
      simp only [List.length_nil] at hwb
      omega
    obtain ⟨hW80, hT120⟩ := hwb1
    have hj := join_len ks hk40
    have hJz : (tx (joinB ks)).size ≤ 603 := by rw [tx_size]; exact hj
    have hTz : (tx T).size ≤ 120 := by rw [tx_size]; exact hT120
    have HWT := Lib.hid hwt
    have HO := Lib.hid hown
    have HB := Lib.hid hbel
    have hbs := hbel.size
    obtain ⟨Aw, cw, rfl⟩ := own_form hown
    obtain ⟨L, hL⟩ : ∃ L, L = ks.length := ⟨_, rfl⟩
    rw [← hL] at hk40 hkn ⊢
    have HL := Lib.hid hL
    clear hwb hj hwt hown hbel hL
    by_cases hgo : L < n ∧ L < 40
    · obtain ⟨hlt, h40⟩ := hgo
      obtain ⟨b, o, z, rfl, hb, hc⟩ := HR.out L hlt
      have hcw : wr.cell? ⟨b, o + L, none⟩ = some (.int .i64 z) := (HB.out.cell (p := ⟨b, o + L, none⟩) hb).trans hc
      obtain ⟨q0, q1⟩ := modJ z 4 (by decide)
      obtain ⟨q, hq⟩ : ∃ q : Int, (IntKind.u64.wrap z).tmod 4 = q := ⟨_, rfl⟩
      rw [hq] at q0 q1
      have hqc : q = 0 ∨ q = 1 ∨ q = 2 ∨ q = 3 := by omega
      have hk1 : L + 1 ≤ 40 := by omega
      have hk2 : L + 1 ≤ n := by omega
      clear hc q0 q1
      rcases hqc with hqk | hqk | hqk | hqk
      · subst hqk
        have hc1 : tx (joinB ks) ++ ⟨#[97]⟩ = tx (joinB (ks ++ [0])) := by rw [joinB_snoc]; exact txJ _ [97]
        have hc2 : tx T ++ ⟨#[97]⟩ = tx (T ++ [97]) := txJ T [97]
        have HS : Hid (wtOf (ks ++ [0]) = (W, (T ++ [97]))) := Lib.hid (by rw [wtOf_snoc, ← HWT.out]; rfl)
        go_wp2_with fail
        go_roundw
        case rel => exact ⟨ks ++ [0], W, (T ++ [97]), by rw [List.length_append, ← HL.out]; exact hk1, by rw [List.length_append, ← HL.out]; exact hk2, rfl, rfl, by rw [List.length_append, ← HL.out]; go_num, HS.out.symm, HO.out, HB.out⟩
        case measure => simp [intOf]; omega
      · subst hqk
        have hc1 : tx (joinB ks) ++ ⟨#[60, 33, 91, 67, 68, 65, 84, 65, 91, 60, 98, 62, 93, 93, 62]⟩ = tx (joinB (ks ++ [1])) := by rw [joinB_snoc]; exact txJ _ [60, 33, 91, 67, 68, 65, 84, 65, 91, 60, 98, 62, 93, 93, 62]
        have hc2 : tx T ++ ⟨#[60, 98, 62]⟩ = tx (T ++ [60, 98, 62]) := txJ T [60, 98, 62]
        have HS : Hid (wtOf (ks ++ [1]) = (W, (T ++ [60, 98, 62]))) := Lib.hid (by rw [wtOf_snoc, ← HWT.out]; rfl)
        go_wp2_with fail
        go_roundw
        case rel => exact ⟨ks ++ [1], W, (T ++ [60, 98, 62]), by rw [List.length_append, ← HL.out]; exact hk1, by rw [List.length_append, ← HL.out]; exact hk2, rfl, rfl, by rw [List.length_append, ← HL.out]; go_num, HS.out.symm, HO.out, HB.out⟩
        case measure => simp [intOf]; omega
      · subst hqk
        have hc1 : tx (joinB ks) ++ ⟨#[60, 33, 45, 45, 32, 99, 32, 45, 45, 62]⟩ = tx (joinB (ks ++ [2])) := by rw [joinB_snoc]; exact txJ _ [60, 33, 45, 45, 32, 99, 32, 45, 45, 62]
        have HS : Hid (wtOf (ks ++ [2]) = (W, T)) := Lib.hid (by rw [wtOf_snoc, ← HWT.out]; rfl)
        go_wp2_with fail
        go_roundw
        case rel => exact ⟨ks ++ [2], W, T, by rw [List.length_append, ← HL.out]; exact hk1, by rw [List.length_append, ← HL.out]; exact hk2, rfl, rfl, by rw [List.length_append, ← HL.out]; go_num, HS.out.symm, HO.out, HB.out⟩
        case measure => simp [intOf]; omega
      · subst hqk
        have hc1 : tx (joinB ks) ++ ⟨#[60, 100, 47, 62]⟩ = tx (joinB (ks ++ [3])) := by rw [joinB_snoc]; exact txJ _ [60, 100, 47, 62]
        by_cases hT0 : T = []
        · have HS : Hid (wtOf (ks ++ [3]) = (W ++ [[]], [])) := Lib.hid (by rw [wtOf_snoc, ← HWT.out, hT0]; simp [wtStep])
          have he : (tx T).toList = [] := toList_nil_of _ (by rw [hT0, tx_size]; rfl)
          clear hT0
          go_wp2_with (at_builtin; refine wpList_append_own _ rfl _ _ 30 rfl w.heap.size 9 i0 _ 1 16 Tryd.underlying30 hi hz0 hz1 hz2 rfl (by decide) _ W.length (txtsC W) rfl (HO.out.alloc _) ⟨wr.heap.size, 0, none⟩ 1 1 [.string ⟨#[]⟩] rfl rfl (cells_one_new _ _ _) (by simp [Value.oneCell']) (by unfold maxLen; omega) (by omega) (by simp; omega) ?_)
          intro v' w5 hown5 hgrow5 _
          have X : Hid (w5.ownsRow w.heap.size 9 1 v' (W ++ [[]]).length (txtsC (W ++ [[]])) ∧ Below w.heap.size w w5) := Lib.hid (by
            refine ⟨?_, Below.grown (HB.out.alloc (by omega) _) hgrow5 (by simp; omega) (fun j hj => (HO.out.lt _ hj).1)⟩
            rw [txtsC_snoc, List.length_append]
            exact hown5)
          clear hown5 hgrow5
          go_wp2_with fail
          go_roundw
          case rel => exact ⟨ks ++ [3], (W ++ [[]]), [], by rw [List.length_append, ← HL.out]; exact hk1, by rw [List.length_append, ← HL.out]; exact hk2, rfl, rfl, by rw [List.length_append, ← HL.out]; go_num, HS.out.symm, X.out.1, X.out.2⟩
          case measure => simp [intOf]; omega
        · have HS : Hid (wtOf (ks ++ [3]) = (W ++ [T] ++ [[]], [])) := Lib.hid (by rw [wtOf_snoc, ← HWT.out]; simp [wtStep, hT0])
          have he : ¬ (tx T).toList = [] := toList_ne_of _ (by rw [tx_size]; exact List.length_pos_iff.2 hT0)
          have he2 : (tx T).toList.isEmpty = false := by simpa using he
          clear hT0
          go_wp2_with (at_builtin; refine wpList_append_own _ rfl _ _ 30 rfl w.heap.size 9 i0 _ 1 16 Tryd.underlying30 hi hz0 hz1 hz2 rfl (by decide) _ W.length (txtsC W) rfl (HO.out.alloc _) ⟨wr.heap.size, 0, none⟩ 1 1 [.string (tx T)] rfl rfl (cells_one_new _ _ _) (by simp [Value.oneCell']) (by unfold maxLen; omega) (by omega) (by simp; omega) ?_)
          intro v' w5 hown5 hgrow5 _
          have X : Hid (w5.ownsRow w.heap.size 9 1 v' (W ++ [T]).length (txtsC (W ++ [T])) ∧ Below w.heap.size w w5) := Lib.hid (by
            refine ⟨?_, Below.grown (HB.out.alloc (by omega) _) hgrow5 (by simp; omega) (fun j hj => (HO.out.lt _ hj).1)⟩
            rw [txtsC_snoc, List.length_append]
            exact hown5)
          obtain ⟨A5, c5, rfl⟩ := own_form hown5
          clear hown5 hgrow5
          have hs5 := X.out.2.size
          obtain ⟨W1, hW1⟩ : ∃ W1, W1 = W ++ [T] := ⟨_, rfl⟩
          have hW1l : W1.length = W.length + 1 := by rw [hW1]; simp
          rw [← hW1] at X HS
          rw [hW1l] at X
          clear hW1
          go_wp2_with (at_builtin; refine wpList_append_own _ rfl _ _ 30 rfl w.heap.size 9 i0 _ 1 16 Tryd.underlying30 hi hz0 hz1 hz2 rfl (by decide) _ (W.length + 1) (txtsC W1) rfl (X.out.1.alloc _) ⟨w5.heap.size, 0, none⟩ 1 1 [.string ⟨#[]⟩] rfl rfl (cells_one_new _ _ _) (by simp [Value.oneCell']) (by unfold maxLen; omega) (by omega) (by simp; omega) ?_)
          intro v' w6 hown6 hgrow6 _
          have Y : Hid (w6.ownsRow w.heap.size 9 1 v' (W1 ++ [[]]).length (txtsC (W1 ++ [[]])) ∧ Below w.heap.size w w6) := Lib.hid (by
            refine ⟨?_, Below.grown (X.out.2.alloc (by omega) _) hgrow6 (by simp; omega) (fun j hj => (X.out.1.lt _ hj).1)⟩
            rw [txtsC_snoc, List.length_append, hW1l]
            exact hown6)
          clear hown6 hgrow6 hW1l
          go_wp2_with fail
          go_roundw
          case rel => exact ⟨ks ++ [3], (W1 ++ [[]]), [], by rw [List.length_append, ← HL.out]; exact hk1, by rw [List.length_append, ← HL.out]; exact hk2, rfl, rfl, by rw [List.length_append, ← HL.out]; go_num, HS.out.symm, Y.out.1, Y.out.2⟩
          case measure => simp [intOf]; omega
    · by_cases hlt : L < n
      · have h40 : ¬ (L : Int) < 40 := by omega
        have hltI : (L : Int) < n := by omega
        clear hgo
        have HPX : Hid (parseX (joinB ks ++ [60, 47, 114, 62]) = .ok (⟨-1, [114], [], []⟩ :: (wtEnd (W, T)).map ndOf)) := Lib.hid (by rw [HWT.out]; exact join_parse ks (by rw [← HL.out]; exact hk40))
        have HJ := Lib.hid (join_len ks (by rw [← HL.out]; exact hk40))
        by_cases hT0 : T = []
        · have he : (tx T).toList = [] := toList_nil_of _ (by rw [hT0, tx_size]; rfl)
          have HFE : Hid (wtEnd (W, T) = W) := Lib.hid (by simp [wtEnd, hT0])
          clear hT0
          obtain ⟨F, hF⟩ : ∃ F, F = W := ⟨_, rfl⟩
          rw [HFE.out, ← hF] at HPX
          have hF81 : F.length ≤ 81 := by rw [hF]; omega
          have HOF : Hid (wr.ownsRow w.heap.size 9 1 (.slice Aw F.length cw) F.length (txtsC F)) := Lib.hid (by rw [hF]; exact HO.out)
          have HBF := HB
          rw [← hF]
          clear hF
          clear HO HB hJz hTz
          have hcat : tx (joinB ks) ++ ⟨#[60, 47, 114, 62]⟩ = tx (joinB ks ++ [60, 47, 114, 62]) := txJ _ [60, 47, 114, 62]
          have hjz : (tx (joinB ks)).size ≤ 603 := by rw [tx_size]; exact HJ.out
          go_wp2_with fail
          refine (Parse_c _ _ (by rw [tx_size, List.length_append]; have := HJ.out; unfold maxLen; simp; omega) (HG.out.below HBF.out)).mono ?_
          rw [bs_tx, HPX.out]
          rintro e w2 ⟨A2, c2, rfl, hn2, hb2⟩
          simp only [errOf, nodesOf, List.length_cons, List.length_map] at hn2 ⊢
          have HB2 : Hid (Below w.heap.size w w2) := Lib.hid (HBF.out.trans (hb2.mono HBF.out.size))
          have HN2 := Lib.hid (NodesR.of hn2)
          have HRW := Lib.hid ((RowR.of HOF.out (Nat.le_refl _)).below hb2)
          have hsF := HBF.out.size
          have hs2 := hb2.size
          clear hn2 hb2 hcat hjz
          obtain ⟨m, hm⟩ : ∃ m, m = F.length := ⟨_, rfl⟩
          rw [← hm] at hF81 HRW HN2 ⊢
          have HM := Lib.hid hm
          clear hm
          go_wp2_with fail
          refine (awake3_c _ (HG.out.below HB2.out)).mono ?_
          rintro e w3 ⟨rfl, hb3⟩
          have hw33 := hb3.size
          have hw23 := Nat.le_trans hs2 hb3.size
          have HB3 : Hid (Below w.heap.size w w3) := Lib.hid (HB2.out.trans (hb3.mono HB2.out.size))
          have HN3 := Lib.hid (HN2.out.below hb3)
          have HR3 := Lib.hid (HRW.out.below (hb3.mono hs2))
          clear hb3
          have hs3 := HB3.out.size
          go_wp2_with fail
          go_loopw [9] (fun iv wr => ∃ q : Nat, q ≤ m ∧ iv = .int .i64 q ∧ Hid (Below w3.heap.size w3 wr)) (fun iv _ => m - (intOf iv).toNat)
          case atStart => exact ⟨0, Nat.zero_le _, rfl, Below.refl _ _⟩
          case round =>
            obtain ⟨q, hq, rfl, hh⟩ := hrel
            have HB4 := hh
            clear hh
            by_cases hqm : q < m
            · have hqF : q < F.length := by have := HM.out; omega
              obtain ⟨bw, ow, cw', hvw, _, hcw', hcells⟩ := (HR3.out.below (HB4.out.mono hw23)).some (by omega)
              injection hvw with hAw _ hccw
              subst hAw
              subst hccw
              obtain ⟨b, o, A4, l4, c4, hA, hra, e0, e1, e2, e3⟩ := (HN3.out.below (HB4.out.mono hw33)).at (q + 1) (by simp; exact hqF)
              subst hA
              simp only [List.getElem_cons_succ, List.getElem_map] at e0 e1 e2
              have cq : wr.cell? ⟨bw, ow + q, none⟩ = some (.string (tx F[q])) := hcells q _ (by simp [txtsC, hqF])
              obtain ⟨t, ht⟩ : ∃ t, t = F[q] := ⟨_, rfl⟩
              rw [← ht] at e0 e1 e2 cq
              clear hra e3 hcells ht hqF
              by_cases ht0 : t = []
              · subst ht0
                have hd1 : (tx [100]).toList = [100] := by rw [ByteArray.toList_eq]; rfl
                have hd0 : (tx []).toList = [] := by rw [ByteArray.toList_eq]; rfl
                simp only [ndOf, if_true] at e0 e1 e2
                go_wp2_with fail
                go_quiet (fail)
                go_wp2_with fail
                go_roundw
                case rel => exact ⟨q + 1, by omega, by go_num, bel_drewN HB4.out _⟩
                case measure => simp [intOf]; omega
              · have hd0 : (tx []).toList = [] := by rw [ByteArray.toList_eq]; rfl
                have ht1 : ¬ (tx t).toList = [] := toList_ne_of _ (by rw [tx_size]; exact List.length_pos_iff.2 ht0)
                have ht2 : (tx t).toList.isEmpty = false := by simpa using ht1
                simp only [ndOf, if_neg ht0] at e0 e1 e2
                clear ht0
                go_wp2_with fail
                go_quiet (fail)
                go_wp2_with fail
                go_roundw
                case rel => exact ⟨q + 1, by omega, by go_num, bel_drewN HB4.out _⟩
                case measure => simp [intOf]; omega
            · go_wp2_with fail
              go_ret
              exact ⟨rfl, HB3.out.trans (HB4.out.mono hs3)⟩
        · have he : ¬ (tx T).toList = [] := toList_ne_of _ (by rw [tx_size]; exact List.length_pos_iff.2 hT0)
          have he2 : (tx T).toList.isEmpty = false := by simpa using he
          have HFE : Hid (wtEnd (W, T) = W ++ [T]) := Lib.hid (by simp [wtEnd, hT0])
          clear hT0
          go_wp2_with (at_builtin; refine wpList_append_own _ rfl _ _ 30 rfl w.heap.size 9 i0 _ 1 16 Tryd.underlying30 hi hz0 hz1 hz2 rfl (by decide) _ W.length (txtsC W) rfl (HO.out.alloc _) ⟨wr.heap.size, 0, none⟩ 1 1 [.string (tx T)] rfl rfl (cells_one_new _ _ _) (by simp [Value.oneCell']) (by unfold maxLen; omega) (by omega) (by simp; omega) ?_)
          intro v' w5 hown5 hgrow5 _
          obtain ⟨F, hF⟩ : ∃ F, F = W ++ [T] := ⟨_, rfl⟩
          rw [HFE.out, ← hF] at HPX
          have hFl : W.length + 1 = F.length := by rw [hF]; simp
          have hF81 : F.length ≤ 81 := by omega
          obtain ⟨A5, c5, rfl⟩ := own_form hown5
          rw [hFl] at hown5 ⊢
          have HOF : Hid (w5.ownsRow w.heap.size 9 1 (.slice A5 F.length c5) F.length (txtsC F)) := Lib.hid (by rw [hF, txtsC_snoc, ← hF]; exact hown5)
          have HBF : Hid (Below w.heap.size w w5) := Lib.hid (Below.grown (HB.out.alloc (by omega) _) hgrow5 (by simp; omega) (fun j hj => (HO.out.lt _ hj).1))
          clear hown5 hgrow5 hF hFl
          clear HO HB hJz hTz he he2
          have hcat : tx (joinB ks) ++ ⟨#[60, 47, 114, 62]⟩ = tx (joinB ks ++ [60, 47, 114, 62]) := txJ _ [60, 47, 114, 62]
          have hjz : (tx (joinB ks)).size ≤ 603 := by rw [tx_size]; exact HJ.out
          go_wp2_with fail
          refine (Parse_c _ _ (by rw [tx_size, List.length_append]; have := HJ.out; unfold maxLen; simp; omega) (HG.out.below HBF.out)).mono ?_
          rw [bs_tx, HPX.out]
          rintro e w2 ⟨A2, c2, rfl, hn2, hb2⟩
          simp only [errOf, nodesOf, List.length_cons, List.length_map] at hn2 ⊢
          have HB2 : Hid (Below w.heap.size w w2) := Lib.hid (HBF.out.trans (hb2.mono HBF.out.size))
          have HN2 := Lib.hid (NodesR.of hn2)
          have HRW := Lib.hid ((RowR.of HOF.out (Nat.le_refl _)).below hb2)
          have hsF := HBF.out.size
          have hs2 := hb2.size
          clear hn2 hb2 hcat hjz
          obtain ⟨m, hm⟩ : ∃ m, m = F.length := ⟨_, rfl⟩
          rw [← hm] at hF81 HRW HN2 ⊢
          have HM := Lib.hid hm
          clear hm
          go_wp2_with fail
          refine (awake3_c _ (HG.out.below HB2.out)).mono ?_
          rintro e w3 ⟨rfl, hb3⟩
          have hw33 := hb3.size
          have hw23 := Nat.le_trans hs2 hb3.size
          have HB3 : Hid (Below w.heap.size w w3) := Lib.hid (HB2.out.trans (hb3.mono HB2.out.size))
          have HN3 := Lib.hid (HN2.out.below hb3)
          have HR3 := Lib.hid (HRW.out.below (hb3.mono hs2))
          clear hb3
          have hs3 := HB3.out.size
          go_wp2_with fail
          go_loopw [9] (fun iv wr => ∃ q : Nat, q ≤ m ∧ iv = .int .i64 q ∧ Hid (Below w3.heap.size w3 wr)) (fun iv _ => m - (intOf iv).toNat)
          case atStart => exact ⟨0, Nat.zero_le _, rfl, Below.refl _ _⟩
          case round =>
            obtain ⟨q, hq, rfl, hh⟩ := hrel
            have HB4 := hh
            clear hh
            by_cases hqm : q < m
            · have hqF : q < F.length := by have := HM.out; omega
              obtain ⟨bw, ow, cw', hvw, _, hcw', hcells⟩ := (HR3.out.below (HB4.out.mono hw23)).some (by omega)
              injection hvw with hAw _ hccw
              subst hAw
              subst hccw
              obtain ⟨b, o, A4, l4, c4, hA, hra, e0, e1, e2, e3⟩ := (HN3.out.below (HB4.out.mono hw33)).at (q + 1) (by simp; exact hqF)
              subst hA
              simp only [List.getElem_cons_succ, List.getElem_map] at e0 e1 e2
              have cq : wr.cell? ⟨bw, ow + q, none⟩ = some (.string (tx F[q])) := hcells q _ (by simp [txtsC, hqF])
              obtain ⟨t, ht⟩ : ∃ t, t = F[q] := ⟨_, rfl⟩
              rw [← ht] at e0 e1 e2 cq
              clear hra e3 hcells ht hqF
              by_cases ht0 : t = []
              · subst ht0
                have hd1 : (tx [100]).toList = [100] := by rw [ByteArray.toList_eq]; rfl
                have hd0 : (tx []).toList = [] := by rw [ByteArray.toList_eq]; rfl
                simp only [ndOf, if_true] at e0 e1 e2
                go_wp2_with fail
                go_quiet (fail)
                go_wp2_with fail
                go_roundw
                case rel => exact ⟨q + 1, by omega, by go_num, bel_drewN HB4.out _⟩
                case measure => simp [intOf]; omega
              · have hd0 : (tx []).toList = [] := by rw [ByteArray.toList_eq]; rfl
                have ht1 : ¬ (tx t).toList = [] := toList_ne_of _ (by rw [tx_size]; exact List.length_pos_iff.2 ht0)
                have ht2 : (tx t).toList.isEmpty = false := by simpa using ht1
                simp only [ndOf, if_neg ht0] at e0 e1 e2
                clear ht0
                go_wp2_with fail
                go_quiet (fail)
                go_wp2_with fail
                go_roundw
                case rel => exact ⟨q + 1, by omega, by go_num, bel_drewN HB4.out _⟩
                case measure => simp [intOf]; omega
            · go_wp2_with fail
              go_ret
              exact ⟨rfl, HB3.out.trans (HB4.out.mono hs3)⟩
      · have hltI : ¬ (L : Int) < n := by omega
        clear hgo
        have HPX : Hid (parseX (joinB ks ++ [60, 47, 114, 62]) = .ok (⟨-1, [114], [], []⟩ :: (wtEnd (W, T)).map ndOf)) := Lib.hid (by rw [HWT.out]; exact join_parse ks (by rw [← HL.out]; exact hk40))
        have HJ := Lib.hid (join_len ks (by rw [← HL.out]; exact hk40))
        by_cases hT0 : T = []
        · have he : (tx T).toList = [] := toList_nil_of _ (by rw [hT0, tx_size]; rfl)
          have HFE : Hid (wtEnd (W, T) = W) := Lib.hid (by simp [wtEnd, hT0])
          clear hT0
          obtain ⟨F, hF⟩ : ∃ F, F = W := ⟨_, rfl⟩
          rw [HFE.out, ← hF] at HPX
          have hF81 : F.length ≤ 81 := by rw [hF]; omega
          have HOF : Hid (wr.ownsRow w.heap.size 9 1 (.slice Aw F.length cw) F.length (txtsC F)) := Lib.hid (by rw [hF]; exact HO.out)
          have HBF := HB
          rw [← hF]
          clear hF
          clear HO HB hJz hTz
          have hcat : tx (joinB ks) ++ ⟨#[60, 47, 114, 62]⟩ = tx (joinB ks ++ [60, 47, 114, 62]) := txJ _ [60, 47, 114, 62]
          have hjz : (tx (joinB ks)).size ≤ 603 := by rw [tx_size]; exact HJ.out
          go_wp2_with fail
          refine (Parse_c _ _ (by rw [tx_size, List.length_append]; have := HJ.out; unfold maxLen; simp; omega) (HG.out.below HBF.out)).mono ?_
          rw [bs_tx, HPX.out]
          rintro e w2 ⟨A2, c2, rfl, hn2, hb2⟩
          simp only [errOf, nodesOf, List.length_cons, List.length_map] at hn2 ⊢
          have HB2 : Hid (Below w.heap.size w w2) := Lib.hid (HBF.out.trans (hb2.mono HBF.out.size))
          have HN2 := Lib.hid (NodesR.of hn2)
          have HRW := Lib.hid ((RowR.of HOF.out (Nat.le_refl _)).below hb2)
          have hsF := HBF.out.size
          have hs2 := hb2.size
          clear hn2 hb2 hcat hjz
          obtain ⟨m, hm⟩ : ∃ m, m = F.length := ⟨_, rfl⟩
          rw [← hm] at hF81 HRW HN2 ⊢
          have HM := Lib.hid hm
          clear hm
          go_wp2_with fail
          refine (awake3_c _ (HG.out.below HB2.out)).mono ?_
          rintro e w3 ⟨rfl, hb3⟩
          have hw33 := hb3.size
          have hw23 := Nat.le_trans hs2 hb3.size
          have HB3 : Hid (Below w.heap.size w w3) := Lib.hid (HB2.out.trans (hb3.mono HB2.out.size))
          have HN3 := Lib.hid (HN2.out.below hb3)
          have HR3 := Lib.hid (HRW.out.below (hb3.mono hs2))
          clear hb3
          have hs3 := HB3.out.size
          go_wp2_with fail
          go_loopw [9] (fun iv wr => ∃ q : Nat, q ≤ m ∧ iv = .int .i64 q ∧ Hid (Below w3.heap.size w3 wr)) (fun iv _ => m - (intOf iv).toNat)
          case atStart => exact ⟨0, Nat.zero_le _, rfl, Below.refl _ _⟩
          case round =>
            obtain ⟨q, hq, rfl, hh⟩ := hrel
            have HB4 := hh
            clear hh
            by_cases hqm : q < m
            · have hqF : q < F.length := by have := HM.out; omega
              obtain ⟨bw, ow, cw', hvw, _, hcw', hcells⟩ := (HR3.out.below (HB4.out.mono hw23)).some (by omega)
              injection hvw with hAw _ hccw
              subst hAw
              subst hccw
              obtain ⟨b, o, A4, l4, c4, hA, hra, e0, e1, e2, e3⟩ := (HN3.out.below (HB4.out.mono hw33)).at (q + 1) (by simp; exact hqF)
              subst hA
              simp only [List.getElem_cons_succ, List.getElem_map] at e0 e1 e2
              have cq : wr.cell? ⟨bw, ow + q, none⟩ = some (.string (tx F[q])) := hcells q _ (by simp [txtsC, hqF])
              obtain ⟨t, ht⟩ : ∃ t, t = F[q] := ⟨_, rfl⟩
              rw [← ht] at e0 e1 e2 cq
              clear hra e3 hcells ht hqF
              by_cases ht0 : t = []
              · subst ht0
                have hd1 : (tx [100]).toList = [100] := by rw [ByteArray.toList_eq]; rfl
                have hd0 : (tx []).toList = [] := by rw [ByteArray.toList_eq]; rfl
                simp only [ndOf, if_true] at e0 e1 e2
                go_wp2_with fail
                go_quiet (fail)
                go_wp2_with fail
                go_roundw
                case rel => exact ⟨q + 1, by omega, by go_num, bel_drewN HB4.out _⟩
                case measure => simp [intOf]; omega
              · have hd0 : (tx []).toList = [] := by rw [ByteArray.toList_eq]; rfl
                have ht1 : ¬ (tx t).toList = [] := toList_ne_of _ (by rw [tx_size]; exact List.length_pos_iff.2 ht0)
                have ht2 : (tx t).toList.isEmpty = false := by simpa using ht1
                simp only [ndOf, if_neg ht0] at e0 e1 e2
                clear ht0
                go_wp2_with fail
                go_quiet (fail)
                go_wp2_with fail
                go_roundw
                case rel => exact ⟨q + 1, by omega, by go_num, bel_drewN HB4.out _⟩
                case measure => simp [intOf]; omega
            · go_wp2_with fail
              go_ret
              exact ⟨rfl, HB3.out.trans (HB4.out.mono hs3)⟩
        · have he : ¬ (tx T).toList = [] := toList_ne_of _ (by rw [tx_size]; exact List.length_pos_iff.2 hT0)
          have he2 : (tx T).toList.isEmpty = false := by simpa using he
          have HFE : Hid (wtEnd (W, T) = W ++ [T]) := Lib.hid (by simp [wtEnd, hT0])
          clear hT0
          go_wp2_with (at_builtin; refine wpList_append_own _ rfl _ _ 30 rfl w.heap.size 9 i0 _ 1 16 Tryd.underlying30 hi hz0 hz1 hz2 rfl (by decide) _ W.length (txtsC W) rfl (HO.out.alloc _) ⟨wr.heap.size, 0, none⟩ 1 1 [.string (tx T)] rfl rfl (cells_one_new _ _ _) (by simp [Value.oneCell']) (by unfold maxLen; omega) (by omega) (by simp; omega) ?_)
          intro v' w5 hown5 hgrow5 _
          obtain ⟨F, hF⟩ : ∃ F, F = W ++ [T] := ⟨_, rfl⟩
          rw [HFE.out, ← hF] at HPX
          have hFl : W.length + 1 = F.length := by rw [hF]; simp
          have hF81 : F.length ≤ 81 := by omega
          obtain ⟨A5, c5, rfl⟩ := own_form hown5
          rw [hFl] at hown5 ⊢
          have HOF : Hid (w5.ownsRow w.heap.size 9 1 (.slice A5 F.length c5) F.length (txtsC F)) := Lib.hid (by rw [hF, txtsC_snoc, ← hF]; exact hown5)
          have HBF : Hid (Below w.heap.size w w5) := Lib.hid (Below.grown (HB.out.alloc (by omega) _) hgrow5 (by simp; omega) (fun j hj => (HO.out.lt _ hj).1))
          clear hown5 hgrow5 hF hFl
          clear HO HB hJz hTz he he2
          have hcat : tx (joinB ks) ++ ⟨#[60, 47, 114, 62]⟩ = tx (joinB ks ++ [60, 47, 114, 62]) := txJ _ [60, 47, 114, 62]
          have hjz : (tx (joinB ks)).size ≤ 603 := by rw [tx_size]; exact HJ.out
          go_wp2_with fail
          refine (Parse_c _ _ (by rw [tx_size, List.length_append]; have := HJ.out; unfold maxLen; simp; omega) (HG.out.below HBF.out)).mono ?_
          rw [bs_tx, HPX.out]
          rintro e w2 ⟨A2, c2, rfl, hn2, hb2⟩
          simp only [errOf, nodesOf, List.length_cons, List.length_map] at hn2 ⊢
          have HB2 : Hid (Below w.heap.size w w2) := Lib.hid (HBF.out.trans (hb2.mono HBF.out.size))
          have HN2 := Lib.hid (NodesR.of hn2)
          have HRW := Lib.hid ((RowR.of HOF.out (Nat.le_refl _)).below hb2)
          have hsF := HBF.out.size
          have hs2 := hb2.size
          clear hn2 hb2 hcat hjz
          obtain ⟨m, hm⟩ : ∃ m, m = F.length := ⟨_, rfl⟩
          rw [← hm] at hF81 HRW HN2 ⊢
          have HM := Lib.hid hm
          clear hm
          go_wp2_with fail
          refine (awake3_c _ (HG.out.below HB2.out)).mono ?_
          rintro e w3 ⟨rfl, hb3⟩
          have hw33 := hb3.size
          have hw23 := Nat.le_trans hs2 hb3.size
          have HB3 : Hid (Below w.heap.size w w3) := Lib.hid (HB2.out.trans (hb3.mono HB2.out.size))
          have HN3 := Lib.hid (HN2.out.below hb3)
          have HR3 := Lib.hid (HRW.out.below (hb3.mono hs2))
          clear hb3
          have hs3 := HB3.out.size
          go_wp2_with fail
          go_loopw [9] (fun iv wr => ∃ q : Nat, q ≤ m ∧ iv = .int .i64 q ∧ Hid (Below w3.heap.size w3 wr)) (fun iv _ => m - (intOf iv).toNat)
          case atStart => exact ⟨0, Nat.zero_le _, rfl, Below.refl _ _⟩
          case round =>
            obtain ⟨q, hq, rfl, hh⟩ := hrel
            have HB4 := hh
            clear hh
            by_cases hqm : q < m
            · have hqF : q < F.length := by have := HM.out; omega
              obtain ⟨bw, ow, cw', hvw, _, hcw', hcells⟩ := (HR3.out.below (HB4.out.mono hw23)).some (by omega)
              injection hvw with hAw _ hccw
              subst hAw
              subst hccw
              obtain ⟨b, o, A4, l4, c4, hA, hra, e0, e1, e2, e3⟩ := (HN3.out.below (HB4.out.mono hw33)).at (q + 1) (by simp; exact hqF)
              subst hA
              simp only [List.getElem_cons_succ, List.getElem_map] at e0 e1 e2
              have cq : wr.cell? ⟨bw, ow + q, none⟩ = some (.string (tx F[q])) := hcells q _ (by simp [txtsC, hqF])
              obtain ⟨t, ht⟩ : ∃ t, t = F[q] := ⟨_, rfl⟩
              rw [← ht] at e0 e1 e2 cq
              clear hra e3 hcells ht hqF
              by_cases ht0 : t = []
              · subst ht0
                have hd1 : (tx [100]).toList = [100] := by rw [ByteArray.toList_eq]; rfl
                have hd0 : (tx []).toList = [] := by rw [ByteArray.toList_eq]; rfl
                simp only [ndOf, if_true] at e0 e1 e2
                go_wp2_with fail
                go_quiet (fail)
                go_wp2_with fail
                go_roundw
                case rel => exact ⟨q + 1, by omega, by go_num, bel_drewN HB4.out _⟩
                case measure => simp [intOf]; omega
              · have hd0 : (tx []).toList = [] := by rw [ByteArray.toList_eq]; rfl
                have ht1 : ¬ (tx t).toList = [] := toList_ne_of _ (by rw [tx_size]; exact List.length_pos_iff.2 ht0)
                have ht2 : (tx t).toList.isEmpty = false := by simpa using ht1
                simp only [ndOf, if_neg ht0] at e0 e1 e2
                clear ht0
                go_wp2_with fail
                go_quiet (fail)
                go_wp2_with fail
                go_roundw
                case rel => exact ⟨q + 1, by omega, by go_num, bel_drewN HB4.out _⟩
                case measure => simp [intOf]; omega
            · go_wp2_with fail
              go_ret
              exact ⟨rfl, HB3.out.trans (HB4.out.mono hs3)⟩
end Go.Proofs.YtbojnmiaheohaaaDoor
