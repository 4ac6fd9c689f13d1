/-
  The walk of WordsForm.
-/
import Derived.Test.YtcaplpocaddieaaDoorWdAwake
import Derived.Test.YtcaplpocaddieaaDoorWdFormM
import Derived.Test.YtcaplpocaddieaaDoorChRefLower
import Derived.Test.YtcaplpocaddieaaDoorGnRow
import Derived.Deep.DeepCutAuto
namespace Go.Proofs.YtcaplpocaddieaaDoor
open Nwl
open Go.RowKit Go.Maps
set_option linter.unusedVariables false

theorem own_below {B : Nat} {e : TypeId} {size : Nat} {w w' : World} {v : Value} {n : Nat} {xs : List Value} (h : w.ownsRow B e size v n xs) (hb : Below w.heap.size w w') : w'.ownsRow B e size v n xs := by
  refine ⟨h.1, ?_⟩
  rcases h.2 with h0 | ⟨g, cap, cur, hv, hg, hh, hc, hx, hs, ht⟩
  · exact .inl h0
  · exact .inr ⟨g, cap, cur, hv, hg, (hb.block g (Array.getElem?_eq_some_iff.1 hh).1).trans hh, hc, hx, hs, ht⟩

set_option maxRecDepth 100000 in
set_option maxHeartbeats 4000000 in
theorem WordsForm_walk (s : ByteArray) (w : World) (hs : s.size ≤ maxLen) (hg : Glob w) :
    Calls Tryd.prog 4 #[.string s] w fun e w' => e = .returned (.bool true) ∧ Below w.heap.size w w' := by
  unfold maxLen at hs
  clear hg
  by_cases hbig : 300 < s.size
  · go_enter Tryd.func4, Tryd.ntmps4
    go_wp2_with (go_at_call 9; refine (awake5_c _).mono ?_; rintro e w1 ⟨rfl, hb1⟩)
    go_ret
    exact ⟨rfl, hb1.out⟩
  · obtain ⟨F, hF⟩ : ∃ F, splitW (bs s) = F := ⟨_, rfl⟩
    have HOK : Hid (∀ x ∈ F, wdOk x) := Lib.hid (by rw [← hF]; exact splitW_ok _)
    have HNX : Hid (∀ (i : Nat) (h : i < F.length), F[i].k = 6 → ∃ h2 : i + 1 < F.length, F[i + 1].k = 6 ∨ F[i + 1].k = 10) := Lib.hid (by subst hF; exact splitW_next _)
    have HUP : Hid (splitW (upL (bs s)) = F) := Lib.hid (by rw [split_up]; exact hF)
    have HF := Lib.hid hF
    obtain ⟨n, hn⟩ : ∃ n, F.length = n := ⟨_, rfl⟩
    have hn301 : n ≤ 301 := by have := splitW_len (bs s); rw [hF, hn, bs_length] at this; omega
    have HN := Lib.hid hn
    clear hF hn
    obtain ⟨i0, hi, hz0, hz1, hz2⟩ := info_parts info_u8
    go_enter Tryd.func4, Tryd.ntmps4
    go_wp2_with fail
    refine (Split_b s _ (by omega) F HF.out n HN.out).mono ?_
    rintro e w1 ⟨A, c, rfl, R1, B1⟩
    go_wp2_with fail
    go_loopw [4] (fun i wr => ∃ k : Nat, k ≤ n ∧ i = .int .i64 k ∧ Hid (Below w1.heap.size w1 wr)) (fun i _ => n - (intOf i).toNat)
    case atStart => exact ⟨0, Nat.zero_le _, rfl, Lib.hid (Below.refl _ _)⟩
    case round =>
      obtain ⟨k, hk, rfl, hh⟩ := hrel
      by_cases hlt : k < n
      · have hkF : k < F.length := by have := HN.out; omega
        obtain ⟨g, rfl, z1, q1, q2⟩ := R1.out.2 k hkF
        have hok := HOK.out _ (List.getElem_mem hkF)
        have hnx := HNX.out k hkF
        have HB2 : Hid (∀ o, Below w1.heap.size w1 (wr.alloc o)) := Lib.hid fun o => hh.out.alloc hh.out.size o
        have r1 : wr.cell? ⟨g, k * 2, none⟩ = some (.int .i64 (F[k].k : Nat)) := (hh.out.cell (p := ⟨g, k * 2, none⟩) z1).trans q1
        have r2 : wr.cell? ⟨g, k * 2 + 1, none⟩ = some (.string (tx F[k].t)) := (hh.out.cell (p := ⟨g, k * 2 + 1, none⟩) z1).trans q2
        have hgw : g < wr.heap.size := by have := hh.out.size; omega
        have hgne : ¬ g = wr.heap.size := by omega
        clear q1 q2
        obtain ⟨x, hx⟩ : ∃ x, F[k] = x := ⟨_, rfl⟩
        rw [hx] at hok hnx r1 r2
        obtain ⟨K, t⟩ := x
        clear hx
        simp only at hok hnx r1 r2
        unfold wdOk at hok
        simp only at hok
        rcases hok with ⟨hK, c1, rr, rfl, hc1, hc2⟩ | ⟨rfl, ht⟩ | ⟨⟨hK1, hK2⟩, rfl⟩
        · obtain ⟨S, hS⟩ : ∃ S, tx (c1 :: rr) = S := ⟨_, rfl⟩
          have h0 : 0 < S.size := by rw [← hS, tx_size]; simp
          have hb1 : 49 ≤ (S[0].toNat : Int) ∧ (S[0].toNat : Int) ≤ 57 := by
            subst hS
            have : (tx (c1 :: rr))[0] = c1 := rfl
            rw [this]; omega
          obtain ⟨hb1, hb2⟩ := hb1
          have hne : ¬ S.toList = [] := toList_ne_of S h0
          have hne2 : S.toList.isEmpty = false := by simpa using hne
          rw [hS] at r2
          clear hS hnx
          rcases hK with rfl | rfl
          all_goals
            go_wp2_with fail
            go_roundw
            case rel => exact ⟨k + 1, by omega, by go_num, Lib.hid (HB2.out _)⟩
            case measure => simp [intOf]; omega
        · obtain ⟨S, hS⟩ : ∃ S, tx t = S := ⟨_, rfl⟩
          have hne : ¬ S.toList = [] := by rw [← hS, toList_bs, bs_tx]; exact ht
          have hne2 : S.toList.isEmpty = false := by simpa using hne
          rw [hS] at r2
          clear hS hnx ht
          go_wp2_with fail
          go_roundw
          case rel => exact ⟨k + 1, by omega, by go_num, Lib.hid (HB2.out _)⟩
          case measure => simp [intOf]; omega
        · have he : (tx []).toList = [] := toList_nil_of _ rfl
          by_cases h6 : K = 6
          · subst h6
            obtain ⟨h2, h3⟩ := hnx rfl
            have hk1n : k + 1 < n := by have := HN.out; omega
            obtain ⟨g', hg', z2, q1, q2⟩ := R1.out.2 (k + 1) h2
            have hgg : g' = g := by
              injection hg' with e
              injection e with e
              exact e.symm
            subst hgg
            have r3 : wr.cell? ⟨g', (k + 1) * 2, none⟩ = some (.int .i64 (F[k + 1].k : Nat)) := (hh.out.cell (p := ⟨g', (k + 1) * 2, none⟩) z1).trans q1
            have hlast : ((k : Int) == (n : Int) - 1) = false := by rw [beq_eq_false_iff_ne]; omega
            clear q1 q2 hnx hg' z2
            obtain ⟨K2, hK2'⟩ : ∃ K2, F[k + 1].k = K2 := ⟨_, rfl⟩
            rw [hK2'] at h3 r3
            clear hK2' h2
            rcases h3 with rfl | rfl
            all_goals
              go_wp2_with fail
              go_roundw
              case rel => exact ⟨k + 1, by omega, by go_num, Lib.hid (HB2.out _)⟩
              case measure => simp [intOf]; omega
          · have e6 : ((K : Int) == 6) = false := by rw [beq_eq_false_iff_ne]; omega
            have e8 : ((K : Int) == 8) = false := by rw [beq_eq_false_iff_ne]; omega
            have e9 : ((K : Int) == 9) = false := by rw [beq_eq_false_iff_ne]; omega
            have e10 : ((K : Int) == 10) = false := by rw [beq_eq_false_iff_ne]; omega
            clear hnx h6
            go_wp2_with fail
            go_roundw
            case rel => exact ⟨k + 1, by omega, by go_num, Lib.hid (HB2.out _)⟩
            case measure => simp [intOf]; omega
      · obtain rfl : k = n := by omega
        have RR := Lib.hid (R1.out.below hh.out)
        have ZR := hh.out.size
        have BR := Lib.hid (B1.out.trans (hh.out.mono B1.out.size))
        clear hh R1 B1 HOK HNX
        generalize w1.heap.size = b1 at *
        generalize wr = w2 at *
        go_wp2_with fail
        go_loopw [6, 7] (fun v i wr => ∃ k : Nat, k ≤ s.size ∧ i = .int .i64 k ∧ Hid (wr.ownsRow w2.heap.size 5 1 v (upL ((bs s).take k)).length (u8s (upL ((bs s).take k))) ∧ Below w2.heap.size w2 wr)) (fun _ i _ => s.size - (intOf i).toNat)
        case atStart => exact ⟨0, Nat.zero_le _, rfl, Lib.hid ⟨World.ownsRow_nil _ _ _ _, Below.refl _ _⟩⟩
        case round =>
          obtain ⟨j, hj, rfl, hh⟩ := hrel
          obtain ⟨hown, hbel⟩ := hh.out
          clear hh
          by_cases hlt2 : j < s.size
          · have hll : Hid ((upL ((bs s).take j)).length = j) := Lib.hid (up_len s j hj)
            rw [hll.out] at hown
            have hsn : Hid (upL ((bs s).take (j + 1)) = upL ((bs s).take j) ++ [up8 s[j]]) := Lib.hid (up_snoc s j hlt2)
            have hbs := hbel.size
            have HO := Lib.hid hown
            have HBX := Lib.hid hbel
            clear hown hbel
            by_cases hu : 97 ≤ (s[j].toNat : Int) ∧ (s[j].toNat : Int) ≤ 122
            · have hlv : Hid (((up8 s[j]).toNat : Int) = (s[j].toNat : Int) - 32) := Lib.hid (up8_val _ hu)
              obtain ⟨hu1, hu2⟩ := hu
              go_wp2_with (at_builtin; refine wpList_append_own _ rfl _ _ 29 rfl w2.heap.size 5 i0 (.int .u8 0) 1 1 Tryd.underlying29 hi hz0 hz1 hz2 rfl (by decide) _ _ _ rfl (HO.out.alloc _) ⟨wr.heap.size, 0, none⟩ 1 1 [.int .u8 ((s[j].toNat : Int) - 32)] rfl rfl (cell_one _ _ _) (fun u hu => by simp at hu; subst hu; rfl) (by unfold maxLen; omega) (by omega) (by simp; omega) ?_; intro v' w5 hown' hgrow _)
              rw [← hlv.out] at hown'
              have hown2 := own_snoc hll.out hown'
              rw [← hsn.out] at hown2
              have X : Hid (w5.ownsRow w2.heap.size 5 1 v' (upL ((bs s).take (j + 1))).length (u8s (upL ((bs s).take (j + 1)))) ∧ Below w2.heap.size w2 w5) := Lib.hid ⟨hown2, Below.grown (HBX.out.alloc (by omega) _) hgrow (by simp; omega) (fun q hq => (HO.out.lt _ hq).1)⟩
              clear hown' hgrow hown2 HO HBX
              go_wp2_with fail
              go_roundw
              case rel => exact ⟨j + 1, by omega, by go_num, X⟩
              case measure => simp [intOf]; omega
            · have hlv : Hid (up8 s[j] = s[j]) := Lib.hid (up8_same _ hu)
              have hways : ¬ 97 ≤ (s[j].toNat : Int) ∨ (97 ≤ (s[j].toNat : Int) ∧ ¬ (s[j].toNat : Int) ≤ 122) := by omega
              clear hu
              rcases hways with hu1 | ⟨hu1, hu2⟩
              all_goals
                go_wp2_with (at_builtin; refine wpList_append_own _ rfl _ _ 29 rfl w2.heap.size 5 i0 (.int .u8 0) 1 1 Tryd.underlying29 hi hz0 hz1 hz2 rfl (by decide) _ _ _ rfl (HO.out.alloc _) ⟨wr.heap.size, 0, none⟩ 1 1 [.int .u8 (s[j].toNat : Int)] rfl rfl (cell_one _ _ _) (fun u hu => by simp at hu; subst hu; rfl) (by unfold maxLen; omega) (by omega) (by simp; omega) ?_; intro v' w5 hown' hgrow _)
                have hown2 := own_snoc hll.out hown'
                rw [← hlv.out, ← hsn.out] at hown2
                have X : Hid (w5.ownsRow w2.heap.size 5 1 v' (upL ((bs s).take (j + 1))).length (u8s (upL ((bs s).take (j + 1)))) ∧ Below w2.heap.size w2 w5) := Lib.hid ⟨hown2, Below.grown (HBX.out.alloc (by omega) _) hgrow (by simp; omega) (fun q hq => (HO.out.lt _ hq).1)⟩
                clear hown' hgrow hown2 HO HBX
                go_wp2_with fail
                go_roundw
                case rel => exact ⟨j + 1, by omega, by go_num, X⟩
                case measure => simp [intOf]; omega
          · obtain rfl : j = s.size := by omega
            have hfull : (bs s).take s.size = bs s := List.take_of_length_le (by rw [bs_length]; omega)
            rw [hfull] at hown
            have HO := Lib.hid hown
            have HBX := Lib.hid hbel
            clear hown hbel hfull
            have hul : (tx (upL (bs s))).size ≤ 100000 := by rw [tx_size, upL, List.length_map, bs_length]; omega
            have HUL := Lib.hid hul
            have HSU : Hid (splitW (bs (tx (upL (bs s)))) = F) := Lib.hid (by rw [bs_tx]; exact HUP.out)
            clear hul
            go_wp2_with fail
            refine (awake5_c _).mono ?_
            rintro e w3 ⟨rfl, hb3⟩
            have hback := owned_string (own_below HO.out hb3.out)
            have B3 := Lib.hid (HBX.out.trans (hb3.out.mono HBX.out.size))
            clear HO HBX hb3
            go_wp2_with fail
            refine (Split_b (tx (upL (bs s))) _ HUL.out F HSU.out k HN.out).mono ?_
            rintro e w4 ⟨A4, c4, rfl, R4, hb4⟩
            have B4 := Lib.hid (B3.out.trans (hb4.out.mono B3.out.size))
            clear hb4 B3 hback
            have RL := Lib.hid (RR.out.below (B4.out.mono ZR))
            have ZL := B4.out.size
            go_wp2_with fail
            refine (Plain_b A4 A k k c4 c F F _ w4.heap.size b1 R4.out (Nat.le_refl _) RL.out (by omega) (by omega) (by omega) true (by simp)).mono ?_
            rintro e w5 ⟨rfl, hb5⟩
            have B5 := Lib.hid (BR.out.trans ((B4.out.trans (hb5.out.mono B4.out.size)).mono BR.out.size))
            go_wp2_with fail
            go_ret
            exact ⟨rfl, B5.out⟩
end Go.Proofs.YtcaplpocaddieaaDoor
