/-
  The document's own Split: the words of any text.
-/
import Derived.Test.YtbpcoiblddhnjaaDoorWfParts
import Derived.Test.YtbpcoiblddhnjaaDoorWfWord2
import Derived.Deep.DeepCutAuto
import Derived.Maps.AppendAt
namespace Nwl
theorem partsF_size : ∀ (f : Nat) (d : Bool) (l : List UInt8), ∀ p ∈ partsF f d l, p.s.length ≤ l.length
  | 0, _, _, p, hp => by simp [partsF] at hp
  | f + 1, d, l, p, hp => by
    rw [partsF] at hp
    rcases List.mem_cons.1 hp with rfl | hp
    · show (l.take (partN l)).length ≤ _
      rw [List.length_take]; omega
    · split at hp
      · simp at hp
      · have h1 := partsF_size f _ _ p hp
        have h2 := nextL_le (l.drop (partN l))
        rw [List.length_drop] at h2
        omega
theorem clean_cons (w : Wd) (ws : List Wd) : cleanW (w :: ws) = if noN w && !aheadW (cleanW ws) then cleanW ws else w :: cleanW ws := rfl
end Nwl
namespace Go.Proofs.YtbpcoiblddhnjaaDoor
open Nwl
open Go.RowKit Go.Maps
set_option linter.unusedVariables false

theorem wrow_mono {w : World} {base base' : Nat} {e : TypeId} {size n : Nat} {v : Value} {xs : List Value} (h : w.ownsRow base e size v n xs) (hb : base' ≤ base) : w.ownsRow base' e size v n xs := by
  refine ⟨h.1, ?_⟩
  rcases h.2 with h0 | ⟨g, cap, cur, h1, h2, h3⟩
  · exact .inl h0
  · exact .inr ⟨g, cap, cur, h1, Nat.le_trans hb h2, h3⟩
/-- parts that may be read -/
def PtR (w : World) (g : Nat) (ps : List Pt) : Prop := g < w.heap.size ∧ ∀ j (hj : j < ps.length), w.cell? ⟨g, j * 3, none⟩ = some (.string (tx ps[j].s)) ∧ w.cell? ⟨g, j * 3 + 1, none⟩ = some (.bool ps[j].dash) ∧ w.cell? ⟨g, j * 3 + 2, none⟩ = some (.bool ps[j].num)
theorem refLower_b (s : ByteArray) (w : World) (hs : s.size ≤ 100000) :
    Calls Tryd.prog 58 #[.string s] w fun e w' => e = .returned (.string (lowerB s)) ∧ Below w.heap.size w w' := refLower_c s w (by omega)

theorem new_below' (w : World) (o : Obj) : Below w.heap.size w (w.alloc o) := (Below.refl _ _).alloc (Nat.le_refl _) _
/-- what the document's Split answers -/
def RSplitPost (F : List Wd) (n : Nat) (w : World) (e : Ending) (w' : World) : Prop := ∃ A c, e = .returned (.slice A n c) ∧ Hid (WdR w'.heap.size w' A n F) ∧ Hid (Below w.heap.size w w')

set_option maxRecDepth 100000 in
set_option maxHeartbeats 4000000 in
theorem refsplit_c (v : ByteArray) (w : World) (hs : v.size ≤ 100000) (F : List Wd) (hF : splitW (bs v) = F) (nF : Nat) (hnF : F.length = nF) :
    Calls Tryd.prog 46 #[.string v] w (RSplitPost F nF w) := by
  have hL : (lowerB v).size = v.size := by rw [← bs_length, lowerB, bs_tx, lowerL, List.length_map, bs_length]
  have hF2 : wordsL (bs (lowerB v)) = F := by rw [lowerB, bs_tx]; exact hF
  have hLs : (lowerB v).size ≤ 100000 := by omega
  have HLow := Lib.hid (fun W => refLower_b v W hs)
  clear hF hL
  generalize lowerB v = L at *
  have hps := stR_parts (bs L)
  have hpl : ∀ p ∈ partsL (bs L), p.s.length ≤ 100000 := by
    intro p hp
    have := partsF_size _ _ _ p hp
    rw [bs_length] at this
    omega
  have hpn : (partsL (bs L)).length ≤ 100001 := by
    have := partsF_len ((bs L).length + 1) false (bs L)
    rw [bs_length] at this
    unfold partsL partsD
    rw [bs_length]
    omega
  unfold wordsL at hF2
  obtain ⟨ps, hpse⟩ : ∃ ps, partsL (bs L) = ps := ⟨_, rfl⟩
  rw [hpse] at hps hpl hpn hF2
  have HPS := Lib.hid hps
  have HPL := Lib.hid hpl
  have HF2 := Lib.hid hF2
  have HNF := Lib.hid hnF
  clear hpse hps hpl hF2 hnF
  obtain ⟨i0, hi, hz0, hz1, hz2⟩ := info_parts info_wd
  go_enter Tryd.func46, Tryd.ntmps46
  go_wp2_with fail
  refine (HLow.out _).mono ?_
  rintro e w1 ⟨rfl, hb1⟩
  go_wp2_with fail
  refine (refparts_c L _ hLs).mono ?_
  rintro e w2 ⟨g, m, c, rfl, hrow, hb2⟩
  have hpn2 : m + 1 = ps.length := by
    have h1 := congrArg List.length HPS.out
    rw [List.length_append, ← hrow.out.1] at h1
    exact h1
  have PR : Hid (PtR w2 g ps) := Lib.hid (by
    obtain ⟨_, hgw, _, _, _, hc⟩ := hrow.out.cells
    refine ⟨hgw, ?_⟩
    rw [← HPS.out]
    exact hc)
  obtain ⟨_, _, hmc, hcm, _, _⟩ := hrow.out.cells
  unfold maxLen at hcm
  have B2 := Lib.hid (hb1.trans (hb2.out.mono hb1.size))
  have HP2 := Lib.hid hpn2
  have HPN := Lib.hid hpn
  have hm5 : m ≤ 100000 := by omega
  clear hrow hb2 hb1 HLow HPS hpn2 hpn
  go_wp2_with fail
  go_loopw [4, 5] (fun lv iv wr => ∃ (k n c2 : Nat) (A : Option Addr) (i : Int), i = (k : Int) - 1 ∧ k ≤ m + 1 ∧ lv = .slice A n c2 ∧ iv = .int .i64 i ∧ Hid (WdRow w2.heap.size wr A n c2 (cleanW ((ps.drop k).map wordP))) ∧ Hid (Below w2.heap.size w2 wr)) (fun _ iv _ => (intOf iv + 1).toNat)
  case atStart => exact ⟨m + 1, 0, 0, none, _, by omega, Nat.le_refl _, rfl, rfl, Lib.hid (by rw [List.drop_of_length_le (by have := HP2.out; omega)]; exact WdRow.nil _ _), Lib.hid (Below.refl _ _)⟩
  case round =>
    obtain ⟨k, n, c2, A, i, hik, hk, rfl, rfl, hrow, hbel⟩ := hrel
    rcases Nat.eq_zero_or_pos k with h0 | h0
    · subst h0
      have hneg : i < 0 := by omega
      have hneg2 : ¬ (0 : Int) ≤ i := by omega
      clear hik
      have hfin : Hid (WdR wr.heap.size wr A n F ∧ n = nF) := Lib.hid (by
        have h1 := hrow.out
        rw [List.drop_zero, HF2.out] at h1
        exact ⟨h1.r, by rw [h1.1, HNF.out]⟩)
      have hB := Lib.hid (B2.out.trans (hbel.out.mono B2.out.size))
      clear hrow hbel PR
      go_wp2_with fail
      go_ret
      obtain ⟨h1, rfl⟩ := hfin.out
      exact ⟨A, c2, rfl, Lib.hid h1, hB⟩
    · obtain ⟨j, rfl⟩ : ∃ j, k = j + 1 := ⟨k - 1, by omega⟩
      obtain rfl : i = (j : Int) := by omega
      have hjp : j < ps.length := by have := HP2.out; omega
      obtain ⟨q0, q1, q2⟩ := PR.out.2 j hjp
      have hgw := PR.out.1
      have hsz := HPL.out _ (List.getElem_mem hjp)
      have hdrop : ps.drop j = ps[j] :: ps.drop (j + 1) := List.drop_eq_getElem_cons hjp
      obtain ⟨p, hp⟩ : ∃ p, ps[j] = p := ⟨_, rfl⟩
      rw [hp] at q0 q1 q2 hsz hdrop
      clear hp
      have r0 : wr.cell? ⟨g, j * 3, none⟩ = some (.string (tx p.s)) := (hbel.out.cell (p := ⟨g, j * 3, none⟩) hgw).trans q0
      have r1 : wr.cell? ⟨g, j * 3 + 1, none⟩ = some (.bool p.dash) := (hbel.out.cell (p := ⟨g, j * 3 + 1, none⟩) hgw).trans q1
      have r2 : wr.cell? ⟨g, j * 3 + 2, none⟩ = some (.bool p.num) := (hbel.out.cell (p := ⟨g, j * 3 + 2, none⟩) hgw).trans q2
      obtain ⟨acc, hacc⟩ : ∃ acc, cleanW ((ps.drop (j + 1)).map wordP) = acc := ⟨_, rfl⟩
      obtain ⟨r, hr⟩ : ∃ r, wordP p = r := ⟨_, rfl⟩
      have hnext : cleanW ((ps.drop j).map wordP) = if noN r && !aheadW acc then acc else r :: acc := by rw [hdrop, List.map_cons, clean_cons, hacc, hr]
      rw [hacc] at hrow
      have HNX := Lib.hid hnext
      have HW : Hid (wordW (bs (tx p.s)) p.dash p.num = r) := Lib.hid hr
      have hps : (tx p.s).size ≤ maxLen := by rw [tx_size]; unfold maxLen; omega
      have hn5 : n ≤ 100001 := by
        have h1 := hrow.out.1
        rw [← hacc] at h1
        have h2 := cleanW_len ((ps.drop (j + 1)).map wordP)
        rw [List.length_map, List.length_drop] at h2
        have := HPN.out
        omega
      have hj0 : (0 : Int) ≤ (j : Int) := by omega
      have HN5 := Lib.hid hn5
      have HM5 := Lib.hid hm5
      have HCM := Lib.hid hcm
      have hjm : (j : Int) < (m : Int) + 1 := by omega
      have hwj : Go.RowKit.wrap64 ((j : Int) - 1) = (j : Int) - 1 := by unfold Go.RowKit.wrap64; omega
      clear hdrop hnext hr hacc q0 q1 q2 hsz hn5 hm5 hs hLs hcm h0 hik hk hjp hj0 hmc
      go_wp2_with fail
      refine (refword_c (tx p.s) p.dash p.num _ hps r HW.out).mono ?_
      rintro e w3 ⟨rfl, hb3⟩
      have R3 := Lib.hid (hrow.out.below hb3)
      have B3 := Lib.hid (hbel.out.trans (hb3.mono hbel.out.size))
      clear hb3 hrow hbel r0 r1 r2 HW hps
      go_upto_region 7 with fail
      obtain ⟨ah, hah⟩ : ∃ ah, aheadW acc = ah := ⟨_, rfl⟩
      go_cut [7] (fun v7 wx => v7 = .bool ah ∧ wx = w3.alloc (.cells #[.int .i64 (r.k : Nat), .string (tx r.t)] 87))
      case first =>
        have HAH := Lib.hid hah
        have hn := R3.out.1
        rcases R3.out.cells with ⟨rfl, rfl, rfl, rfl⟩ | ⟨g', rfl, _, hg', _, _, hc⟩
        · obtain rfl : ah = false := hah.symm
          clear hah hn
          go_wp2_with fail
          go_meet
          exact ⟨rfl, rfl⟩
        · cases acc with
          | nil =>
            obtain rfl : n = 0 := hn
            obtain rfl : ah = false := hah.symm
            clear hah hc
            go_wp2_with fail
            go_meet
            exact ⟨rfl, rfl⟩
          | cons x xs =>
            obtain ⟨n', rfl⟩ : ∃ n', n = n' + 1 := ⟨n - 1, by rw [hn]; simp⟩
            have hx0 := (hc 0 (by simp)).1
            simp only [Nat.zero_mul, List.getElem_cons_zero] at hx0
            have hg'' : ¬ g' = w3.heap.size := by omega
            have hn5 := HN5.out
            have hsoft : softW x = ah := hah
            unfold softW at hsoft
            clear hah hn hc HAH
            by_cases h6 : x.k = 6
            · rw [h6] at hsoft hx0
              obtain rfl : ah = true := hsoft.symm
              clear h6 hsoft
              go_wp2_with fail
              go_meet
              exact ⟨rfl, rfl⟩
            · by_cases h10 : x.k = 10
              · rw [h10] at hsoft hx0
                obtain rfl : ah = true := hsoft.symm
                clear h6 h10 hsoft
                go_wp2_with fail
                go_meet
                exact ⟨rfl, rfl⟩
              · have e6 : ((x.k : Int) == 6) = false := by rw [beq_eq_false_iff_ne]; omega
                have e10 : ((x.k : Int) == 10) = false := by rw [beq_eq_false_iff_ne]; omega
                obtain rfl : ah = false := by
                  rw [← hsoft, beq_eq_false_iff_ne.2 h6, beq_eq_false_iff_ne.2 h10]; rfl
                clear h6 h10 hsoft
                generalize x.k = XK at *
                go_wp2_with fail
                go_meet
                exact ⟨rfl, rfl⟩
      case rest =>
      obtain ⟨rfl, rfl⟩ := hcut
      obtain ⟨sk, hsk⟩ : ∃ sk, (noN r && !ah) = sk := ⟨_, rfl⟩
      rw [hah, hsk] at HNX
      clear hah
      go_upto_region 8 with fail
      go_cut [46] (fun v46 wx => v46 = .bool sk ∧ wx = w3.alloc (.cells #[.int .i64 (r.k : Nat), .string (tx r.t)] 87))
      case first =>
        by_cases h6 : r.k = 6
        · have hN : noN r = true := by unfold noN; rw [h6]; rfl
          rw [hN, Bool.true_and] at hsk
          subst hsk
          have H6 := Lib.hid h6
          rw [h6]
          clear hN h6
          cases ah
          all_goals
            go_wp2_with fail
            go_meet
            exact ⟨rfl, by rw [H6.out]; rfl⟩
        · have hN : noN r = false := by unfold noN; rw [beq_eq_false_iff_ne]; exact h6
          rw [hN, Bool.false_and] at hsk
          subst hsk
          have e6 : ((r.k : Int) == 6) = false := by rw [beq_eq_false_iff_ne]; omega
          clear hN h6
          generalize r.k = RK at *
          go_wp2_with fail
          go_meet
          exact ⟨rfl, rfl⟩
      case rest =>
      obtain ⟨rfl, rfl⟩ := hcut
      clear hsk
      have B4 := Lib.hid (B3.out.alloc B3.out.size (.cells #[.int .i64 (r.k : Nat), .string (tx r.t)] 87))
      have R4 := Lib.hid (R3.out.below (new_below' w3 (.cells #[.int .i64 (r.k : Nat), .string (tx r.t)] 87)))
      clear R3
      cases sk with
      | true =>
        have R5 : Hid (WdRow w2.heap.size (w3.alloc (.cells #[.int .i64 (r.k : Nat), .string (tx r.t)] 87)) A n c2 (cleanW ((ps.drop j).map wordP))) := Lib.hid (by rw [HNX.out]; exact R4.out)
        clear R4 HNX
        go_wp2_with fail
        go_roundw
        case rel => exact ⟨j, n, c2, A, _, hwj, by omega, rfl, rfl, R5, B4⟩
        case measure => simp only [intOf]; rw [hwj]; omega
      | false =>
        have hmade := own_made1 (w3.alloc (.cells #[.int .i64 (r.k : Nat), .string (tx r.t)] 87)) 87 [.int .i64 (r.k : Nat), .string (tx r.t)] 2 rfl
        rw [show (w3.alloc (.cells #[.int .i64 (r.k : Nat), .string (tx r.t)] 87)).heap.size = w3.heap.size + 1 by simp] at hmade
        have hws := B3.out.size
        have HOWN := Lib.hid (wrow_mono (base' := w2.heap.size) hmade (by omega))
        clear hmade
        have B5 := Lib.hid (B4.out.alloc B4.out.size (.cells #[.int .i64 (r.k : Nat), .string (tx r.t)] 87))
        have R5 := Lib.hid (R4.out.below (new_below' _ (.cells #[.int .i64 (r.k : Nat), .string (tx r.t)] 87)))
        have HN := Lib.hid R5.out.1
        have hn5 := HN5.out
        clear R4 B4 B3
        rcases R5.out.cells with ⟨rfl, rfl, rfl, rfl⟩ | ⟨g', rfl, hg1, hg', _, _, _⟩
        · have R6 : Hid (WdRow w2.heap.size ((w3.alloc (.cells #[.int .i64 (r.k : Nat), .string (tx r.t)] 87)).alloc (.cells #[.int .i64 (r.k : Nat), .string (tx r.t)] 87)) (some ⟨w3.heap.size + 1, 0, none⟩) 1 1 (cleanW ((ps.drop j).map wordP))) := Lib.hid (by
            rw [HNX.out]
            exact ⟨rfl, HOWN.out⟩)
          go_wp2_with (at_builtin; go_must (refine wpList_append_own_none rfl _ _ 75 rfl w2.heap.size 87 i0 2 Tryd.underlying75 hi _ 1 [.int .i64 (r.k : Nat), .string (tx r.t)] rfl HOWN.out rfl ?_))
          go_roundw
          case rel => exact ⟨j, 1, 1, _, _, hwj, by omega, rfl, rfl, R6, B5⟩
          case measure => simp only [intOf]; rw [hwj]; omega
        · have HSRC : Hid (∀ (q : Nat) (u : Value), (wdCells acc)[q]? = some u → ((w3.alloc (.cells #[.int .i64 (r.k : Nat), .string (tx r.t)] 87)).alloc (.cells #[.int .i64 (r.k : Nat), .string (tx r.t)] 87)).cell? ((⟨g', 0, none⟩ : Addr).add q) = some u) := Lib.hid (fun q u hu => R5.out.2.cells (g := g') rfl q u hu)
          go_wp2_with (at_builtin; go_must (refine wpList_append_own_at _ rfl _ _ 75 rfl w2.heap.size 87 i0 _ 2 24 Tryd.underlying75 hi hz0 hz1 hz2 rfl (by decide) _ 1 [.int .i64 (r.k : Nat), .string (tx r.t)] rfl HOWN.out ⟨g', 0, none⟩ n c2 (wdCells acc) rfl (wdCells_len acc |>.trans (by rw [HN.out])) HSRC.out (wdCells_one acc) (by unfold maxLen; omega) (by omega) (by simp; omega) ?_); intro v' w6 hown6 hgrow6 _ _)
          obtain ⟨A6, c6, rfl⟩ := own_form hown6
          have R6 : Hid (WdRow w2.heap.size w6 A6 (1 + n) c6 (cleanW ((ps.drop j).map wordP))) := Lib.hid (by
            rw [HNX.out]
            refine ⟨?_, hown6⟩
            show 1 + n = (r :: acc).length
            rw [List.length_cons, ← HN.out]
            omega)
          have B6 := Lib.hid (B5.out.grown hgrow6 (by simp; omega) (fun q hq => (HOWN.out.lt q hq).1))
          clear hown6 hgrow6 HOWN HSRC R5 B5
          go_wp2_with fail
          go_roundw
          case rel => exact ⟨j, 1 + n, c6, _, _, hwj, by omega, rfl, rfl, R6, B6⟩
          case measure => simp only [intOf]; rw [hwj]; omega
end Go.Proofs.YtbpcoiblddhnjaaDoor
