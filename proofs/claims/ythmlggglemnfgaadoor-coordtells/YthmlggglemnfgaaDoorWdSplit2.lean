/-
  The contract of words.Split.
-/
import Derived.Test.YthmlggglemnfgaaDoorBc
import Derived.Deep.CutRange
namespace Nwl
theorem goW_at {s : ByteArray} {a e : Nat} (he : a + partN ((bs s).drop a) = e) : ((bs s).drop a).drop (partN ((bs s).drop a)) = (bs s).drop e := by
  rw [List.drop_drop, he]
theorem goW_word {s : ByteArray} {a e : Nat} (he : a + partN ((bs s).drop a) = e) : bs (s.extract a e) = ((bs s).drop a).take (partN ((bs s).drop a)) := by
  rw [bs_extract, ← he, Nat.add_sub_cancel_left]
theorem part_end {s : ByteArray} {a e : Nat} (ha : a ≤ s.size) (he : a + partN ((bs s).drop a) = e) : e ≤ s.size := by
  have := partN_le ((bs s).drop a)
  rw [List.length_drop, bs_length] at this
  omega
theorem dashL_cons (c : UInt8) (r : List UInt8) : dashL (c :: r) = !((c.toNat : Int) == 46) := by
  show (!(c.toNat == 46)) = _
  congr 1
  rw [Bool.eq_iff_iff, beq_iff_eq, beq_iff_eq]
  omega
theorem stepW_len (acc : List Wd) (w : Wd) : (stepW acc w).length ≤ acc.length + 1 := by
  unfold stepW
  rw [List.length_append]
  have := wn_len acc
  split <;> simp <;> omega
theorem drop_cons_at (s : ByteArray) (e : Nat) (h : e < s.size) : (bs s).drop e = s[e] :: (bs s).drop (e + 1) := by
  rw [List.drop_eq_getElem_cons (by rw [bs_length]; exact h)]
  rfl
end Nwl
namespace Go.Proofs.YthmlggglemnfgaaDoor
open Nwl
open Go.RowKit Go.Maps
set_option linter.unusedVariables false

theorem info_wd : (Tryd.prog.info? 53).map (fun i => (i.zero, i.size, i.bytes)) = some (some (.agg #[.int .i64 0, .string ⟨#[]⟩]), 2, 24) := by kernel_rfl
theorem info_parts2 {P : Program} {t : TypeId} {z : Value} {a b : Nat} (h : (P.info? t).map (fun i => (i.zero, i.size, i.bytes)) = some (some z, a, b)) : ∃ i, P.info? t = some i ∧ i.zero = some z ∧ i.size = a ∧ i.bytes = b := by
  cases hi : P.info? t with
  | none => rw [hi] at h; cases h
  | some i =>
    rw [hi] at h
    simp at h
    exact ⟨i, rfl, h.1, h.2.1, h.2.2⟩
theorem two_oneCell (k : Int) (a : ByteArray) : ∀ u ∈ [Value.int .i64 k, Value.string a], u.oneCell' = true := by
  intro u hu
  simp at hu
  rcases hu with rfl | rfl <;> rfl
theorem WdRow.below {B : Nat} {w w' : World} {A : Option Addr} {n c : Nat} {l : List Wd} (h : WdRow B w A n c l) (hb : Below w.heap.size w w') : WdRow B w' A n c l := by
  obtain ⟨hn, h⟩ := h
  refine ⟨hn, h.1, ?_⟩
  rcases h.2 with h0 | ⟨g, cap, cur, hv, hg, hh, hc, hx, hs, ht⟩
  · exact .inl h0
  · exact .inr ⟨g, cap, cur, hv, hg, (hb.block g (Array.getElem?_eq_some_iff.1 hh).1).trans hh, hc, hx, hs, ht⟩
theorem below_d {w w1 : World} (h : Below w.drew.heap.size w.drew w1) : Below w.heap.size w w1 := (Below.refl w.heap.size w).drew.trans h
theorem box_two_d {w w1 : World} {t : TypeId} {x y : Value} (h : Below (w.alloc (.cells #[x, y] t)).drew.heap.size (w.alloc (.cells #[x, y] t)).drew w1) : w1.cell? ⟨w.heap.size, 0, none⟩ = some x ∧ w1.cell? ⟨w.heap.size, 1, none⟩ = some y ∧ w1.frozen? ⟨w.heap.size, 0, none⟩ = false ∧ w1.frozen? ⟨w.heap.size, 1, none⟩ = false ∧ Hid (Blk w1 w.heap.size t #[x, y]) ∧ Below w.heap.size w w1 := by
  have h' := below_d h
  have hb := (Blk.new w t #[x, y]).below h'
  exact ⟨hb.cell 0, hb.cell 1, hb.frozen 0, hb.frozen 1, hb, ((Below.refl w.heap.size w).alloc (Nat.le_refl _) _).trans (h'.mono (by simp))⟩
theorem WdRow.wn {B : Nat} {w : World} {A : Option Addr} {n c m : Nat} {l : List Wd} (h : WdRow B w A n c l) (hm : (wn l).length = m) : WdRow B w A m c (wn l) := by
  rcases h.cells with ⟨rfl, rfl, rfl, rfl⟩ | ⟨g, rfl, _⟩
  · obtain rfl : m = 0 := by rw [← hm]; rfl
    exact WdRow.nil _ _
  · rw [wn_pre l, hm]
    exact h.cut m (by have := wn_len l; omega)
/-- what the box of a new word holds, in whichever order it was made -/
def BoxAt (w : World) (wc : World) (b : Nat) (r : Wd) : Prop := Blk wc b 53 #[.int .i64 (r.k : Nat), .string (tx r.t)] ∧ Below w.heap.size w wc

set_option maxRecDepth 100000 in
set_option maxHeartbeats 4000000 in
theorem split_walk (v : ByteArray) (w : World) (hs : v.size ≤ 100000) :
    Calls Tryd.prog 38 #[.string v] w fun e w' => ∃ A c, e = .returned (.slice A (splitW (bs v)).length c) ∧ WdRow w.heap.size w' A (splitW (bs v)).length c (splitW (bs v)) ∧ Below w.heap.size w w' := by
  have hL : (lowerB v).size = v.size := by rw [← bs_length, lowerB, bs_tx, lowerL, List.length_map, bs_length]
  have hm : v.size ≤ maxLen := by unfold maxLen; omega
  have HF : Hid (splitW (bs v) = goW [] false ((bs (lowerB v)).drop 0)) := Lib.hid (by rw [List.drop_zero, goW_words, lowerB, bs_tx]; rfl)
  have hLs : (lowerB v).size ≤ 100000 := by omega
  have hLm : (lowerB v).size ≤ maxLen := by omega
  have HLow := Lib.hid (fun W => Lower_c v W hm)
  clear hL
  generalize lowerB v = L at *
  generalize splitW (bs v) = F at *
  obtain ⟨i0, hi, hz0, hz1, hz2⟩ := info_parts info_wd
  go_enter Tryd.func38, Tryd.ntmps38
  go_wp2_with fail
  refine wp_scope_again 0 (fun a' w' => ∃ (acc : List Wd) (a : Nat) (d : Bool) (A : Option Addr) (n c : Nat) (u7 u8 u9 u10 u11 u12 u13 u14 u15 u16 u17 u18 u19 u20 u21 u22 u23 u24 u25 u26 u27 u28 u29 u30 u31 u32 u33 u34 u35 u36 u37 u38 u39 u40 u41 u42 u43 u44 u45 u46 u47 u48 u49 u50 u51 u52 u53 : Value), a' = { tmps := #[.string v, undef, .slice none 0 0, .string L, .slice A n c, .int .i64 a, .bool d, u7, u8, u9, u10, u11, u12, u13, u14, u15, u16, u17, u18, u19, u20, u21, u22, u23, u24, u25, u26, u27, u28, u29, u30, u31, u32, u33, u34, u35, u36, u37, u38, u39, u40, u41, u42, u43, u44, u45, u46, u47, u48, u49, u50, u51, u52, u53], defers := [] } ∧ Hid (WdRow w.heap.size w' A n c acc ∧ Below w.heap.size w w' ∧ a ≤ L.size ∧ n + (L.size - a) ≤ L.size ∧ F = goW acc d ((bs L).drop a))) (fun a' _ => L.size - (intOf (a'.tmps.getD 5 undef)).toNat) rfl ?_ ?_
  · rintro a' w1 ⟨acc, a, d, A, n, c, u7, u8, u9, u10, u11, u12, u13, u14, u15, u16, u17, u18, u19, u20, u21, u22, u23, u24, u25, u26, u27, u28, u29, u30, u31, u32, u33, u34, u35, u36, u37, u38, u39, u40, u41, u42, u43, u44, u45, u46, u47, u48, u49, u50, u51, u52, u53, rfl, hh⟩
    obtain ⟨hrow, hbel, ha, hlen, hgo⟩ := hh.out
    clear hh
    obtain ⟨e, he⟩ : ∃ e, a + partN ((bs L).drop a) = e := ⟨_, rfl⟩
    have hel := part_end ha he
    have hae : a ≤ e := by omega
    have hbw := goW_word he
    have hdd := goW_at he
    obtain ⟨q, hq⟩ : ∃ q, digHd ((bs L).drop e) = q := ⟨_, rfl⟩
    obtain ⟨r, hr⟩ : ∃ r, wordW (bs (L.extract a e)) d q = r := ⟨_, rfl⟩
    have hxs : (L.extract a e).size ≤ maxLen := by rw [extract_size L a e hel]; omega
    have HE := Lib.hid he
    have HQ := Lib.hid hq
    have HR := Lib.hid hr
    have HW := Lib.hid hrow
    have HB := Lib.hid hbel
    have HGO : Hid (((bs L).drop e = [] → F = wn (stepW acc r)) ∧ ((bs L).drop e ≠ [] → F = goW (stepW acc r) (dashL ((bs L).drop e)) (nextL ((bs L).drop e)))) := Lib.hid (by
      refine ⟨fun h => ?_, fun h => ?_⟩
      · rw [hgo, goW_end (by rw [hdd]; exact h), ← hr, ← hq, hbw, h]; rfl
      · rw [hgo, goW_step (by rw [hdd]; exact h), hdd, ← hr, ← hq, hbw])
    clear hgo hbw hdd hq hr hrow hbel
    go_wp2_with (go_at_call 47; refine (partEnd_c L a _ hLm ha e HE.out).mono ?_; rintro e1 w2 ⟨rfl, hb2⟩)
    have HW2 := Lib.hid (HW.out.below hb2)
    have HB2 := Lib.hid (HB.out.trans (hb2.mono HB.out.size))
    clear hb2 HW HB
    go_cut [8] from 9 to 53 (fun p wc => ∃ b, p = .pointer (some ⟨b, 0, none⟩) ∧ Hid (BoxAt w2 wc b r))
    case first =>
      go_region_with (first
        | (go_at_call 49; refine (digitAt_c L e _ hLm hel q HQ.out).mono ?_; rintro e3 w3 ⟨rfl, rfl⟩)
        | (go_at_call 48; refine (word_c (L.extract a e) d q _ hxs r HR.out).mono ?_; rintro e3 w3 ⟨rfl, hb3⟩; (first | (have hx3 := box_two_d hb3; obtain ⟨c0, c1, f0, f1, hk3, hbel3⟩ := hx3; clear hb3) | (have hbel3 := below_d hb3; clear hb3))))
      all_goals (go_wp2_with fail; go_meet)
      all_goals first
        | exact ⟨_, rfl, Lib.hid ⟨Blk.new _ _ _, hbel3.alloc hbel3.size _⟩⟩
        | exact ⟨_, rfl, Lib.hid ⟨(hk3.out.set 0 _).set 1 _, (hbel3.setCell (Nat.le_refl _) _).setCell (Nat.le_refl _) _⟩⟩
    case rest =>
    obtain ⟨b, rfl, hbox⟩ := hcut
    have hc0 := hbox.out.1.cell 0
    have hc1 := hbox.out.1.cell 1
    have HWc := Lib.hid (HW2.out.below hbox.out.2)
    have HBc := Lib.hid (HB2.out.trans (hbox.out.2.mono HB2.out.size))
    clear hbox HW2 HB2 hxs HQ HR
    simp at hc0 hc1
    have hsoft : Hid ((r.k = 6 ∨ r.k = 10) → softW r = true) := Lib.hid fun h => by unfold softW; rcases h with h | h <;> rw [h] <;> rfl
    have hhard : Hid (¬ (r.k = 6 ∨ r.k = 10) → softW r = false) := Lib.hid fun h => by
      unfold softW
      rw [beq_eq_false_iff_ne.2 (fun e => h (.inl e)), beq_eq_false_iff_ne.2 (fun e => h (.inr e))]; rfl
    obtain ⟨t, ht⟩ : ∃ t, softW r = t := ⟨_, rfl⟩
    rw [ht] at hsoft hhard
    have HT := Lib.hid ht
    clear ht
    go_upto_region 6 with fail
    go_cut [30] from 9 to 53 (fun v wx => v = .bool (!t) ∧ wx = wc)
    case first =>
      by_cases h6 : r.k = 6
      · obtain rfl := hsoft.out (.inl h6)
        rw [h6] at hc0
        clear h6 hsoft hhard
        go_wp2_with fail
        go_meet
        exact ⟨rfl, rfl⟩
      · by_cases h10 : r.k = 10
        · obtain rfl := hsoft.out (.inr h10)
          rw [h10] at hc0
          clear h6 h10 hsoft hhard
          go_wp2_with fail
          go_meet
          exact ⟨rfl, rfl⟩
        · obtain rfl := hhard.out (fun h => h.elim h6 h10)
          have h6' : ((r.k : Int) != 6) = true := by rw [bne_iff_ne]; omega
          have h10' : ((r.k : Int) != 10) = true := by rw [bne_iff_ne]; omega
          clear h6 h10 hsoft hhard
          generalize r.k = K at *
          go_wp2_with fail
          go_meet
          exact ⟨rfl, rfl⟩
    case rest =>
    obtain ⟨rfl, rfl⟩ := hcut
    clear hsoft hhard
    go_upto_if 30 with fail
    go_cut [4] from 9 to 53 (fun v wx => ∃ m, v = .slice A m c ∧ wx = wc ∧ m ≤ n ∧ Hid (WdRow w.heap.size wc A m c (if softW r then acc else wn acc)))
    case first =>
      cases t with
      | true =>
        have HX : Hid (WdRow w.heap.size wc A n c (if softW r then acc else wn acc)) := Lib.hid (by rw [HT.out]; exact HWc.out)
        go_wp2_with fail
        go_meet
        exact ⟨n, rfl, rfl, Nat.le_refl _, HX⟩
      | false =>
        obtain ⟨m, hm2⟩ : ∃ m, (wn acc).length = m := ⟨_, rfl⟩
        have hmn : m ≤ n := by have := wn_len acc; have := HWc.out.1; omega
        have HX : Hid (WdRow w.heap.size wc A m c (if softW r then acc else wn acc)) := Lib.hid (by
          rw [HT.out]
          exact HWc.out.wn hm2)
        have HM := Lib.hid hm2
        clear hm2
        go_wp2_with (go_at_call 50; refine (withoutNothing_c _ A n c acc _ HWc.out m HM.out).mono ?_; rintro e3 w3 ⟨rfl, rfl⟩)
        go_meet
        exact ⟨m, rfl, rfl, hmn, HX⟩
    case rest =>
    obtain ⟨m, rfl, rfl, hmn, HX⟩ := hcut
    clear HWc HT
    have hst : Hid (stepW acc r = (if softW r then acc else wn acc) ++ [r]) := Lib.hid rfl
    obtain ⟨acc2, hacc2⟩ : ∃ l, (if softW r then acc else wn acc) = l := ⟨_, rfl⟩
    rw [hacc2] at HX hst
    clear hacc2
    have hrw := HX.out.below ((Below.refl wc.heap.size wc).alloc (Nat.le_refl _) (.cells #[.int .i64 (r.k : Nat), .string (tx r.t)] 53))
    have HCS := Lib.hid hrw.2
    have HML := Lib.hid hrw.1
    have HNEWS := Lib.hid (cells_two_new wc (.int .i64 (r.k : Nat)) (.string (tx r.t)) 53)
    have hws := HBc.out.size
    clear hrw HX
    go_upto_region 9 with (at_builtin; go_must (refine wpList_append_own_at _ rfl _ _ 49 rfl w.heap.size 53 i0 _ 2 24 Tryd.underlying49 hi hz0 hz1 hz2 rfl (by decide) _ m (wdCells acc2) rfl HCS.out ⟨wc.heap.size, 0, none⟩ 1 1 [.int .i64 (r.k : Nat), .string (tx r.t)] rfl rfl HNEWS.out (two_oneCell _ _) (by unfold maxLen; omega) (by omega) (by simp; omega) ?_); intro v' w5 hown5 hgrow5 _ _)
    obtain ⟨A', c', rfl⟩ := own_form hown5
    have hbel5 := (HBc.out.alloc hws _).grown hgrow5 (by simp; omega) (fun k hk => (HCS.out.lt k hk).1)
    have hrow5 : WdRow w.heap.size w5 A' (m + 1) c' (stepW acc r) := by
      rw [hst.out]
      exact ⟨by rw [List.length_append, HML.out]; rfl, by rw [wdCells_app]; exact hown5⟩
    have HROW := Lib.hid hrow5
    have HBEL := Lib.hid hbel5
    clear hown5 hgrow5 hbel5 hrow5 HNEWS HCS HML hc0 hc1 HBc hws
    by_cases hend : e = L.size
    · have hdn : (bs L).drop e = [] := List.drop_eq_nil_of_le (by rw [bs_length]; omega)
      have hF := HGO.out.1 hdn
      have hee : ((e : Int) == (L.size : Int)) = true := by rw [beq_iff_eq]; omega
      obtain ⟨m2, hm2⟩ : ∃ m, (wn (stepW acc r)).length = m := ⟨_, rfl⟩
      have HM2 := Lib.hid hm2
      have HFF := Lib.hid hF
      clear hend hdn hF hm2 HGO
      go_wp2_with (go_at_call 50; refine (withoutNothing_c _ A' (m + 1) c' (stepW acc r) _ HROW.out m2 HM2.out).mono ?_; rintro e3 w3 ⟨rfl, rfl⟩)
      simp only [Exit.jump]
      go_ret
      have hfl : F.length = m2 := by rw [HFF.out]; exact HM2.out
      rw [hfl]
      refine ⟨A', c', rfl, ?_, HBEL.out⟩
      rw [HFF.out]
      exact HROW.out.wn HM2.out
    · have hlt : e < L.size := by omega
      have hdn := drop_cons_at L e hlt
      have hF := HGO.out.2 (by rw [hdn]; simp)
      rw [hdn] at hF
      have hee : ((e : Int) == (L.size : Int)) = false := by rw [beq_eq_false_iff_ne]; omega
      have hadv : sepI L[e].toNat = false → a < e := by
        intro hsep
        rcases Nat.lt_or_ge a e with h | h
        · exact h
        · obtain rfl : a = e := by omega
          have h2 := HE.out
          rw [hdn] at h2
          have := partN_pos (c := L[a]) (r := (bs L).drop (a + 1)) hsep
          omega
      obtain ⟨dd, hdd⟩ : ∃ dd, ((L[e].toNat : Int) == 46) = dd := ⟨_, rfl⟩
      have hdash : dashL (L[e] :: (bs L).drop (e + 1)) = !dd := by
        rw [← hdd]
        exact dashL_cons _ _
      rw [hdash] at hF
      have hne : ((L[e].toNat : Int) != 46) = !dd := by rw [← hdd]; rfl
      clear hend HGO HE he hdash hdd
      cases hsep : sepI L[e].toNat with
      | true =>
        have hnx : nextL (L[e] :: (bs L).drop (e + 1)) = (bs L).drop (e + 1) := by
          show (if sep8 L[e] then _ else _) = _
          rw [if_pos (show sep8 L[e] = true from hsep)]
        rw [hnx] at hF
        have HFF := Lib.hid hF
        clear hF hnx hdn hadv
        go_wp2_with (go_at_call 51; refine (separates_c _ _).mono ?_; rintro e3 w3 ⟨rfl, rfl⟩)
        go_step3
        refine ⟨rfl, ⟨stepW acc r, e + 1, !dd, A', m + 1, c', _, _, _, _, _, _, _, _, _, _, _, _, _, _, _, _, _, _, _, _, _, _, _, _, _, _, _, _, _, _, _, _, _, _, _, _, _, _, _, _, _, _, _, _, _, _, _, rfl, Lib.hid ⟨HROW.out, HBEL.out, by omega, by omega, HFF.out⟩⟩, ?_⟩
        simp [intOf]
        omega
      | false =>
        have hnx : nextL (L[e] :: (bs L).drop (e + 1)) = (bs L).drop e := by
          show (if sep8 L[e] then _ else _) = _
          rw [if_neg (show ¬ sep8 L[e] = true by show ¬ sepI L[e].toNat = true; rw [hsep]; decide), hdn]
        rw [hnx] at hF
        have hadv2 := hadv hsep
        have HFF := Lib.hid hF
        clear hF hnx hdn hadv
        go_wp2_with (go_at_call 51; refine (separates_c _ _).mono ?_; rintro e3 w3 ⟨rfl, rfl⟩)
        go_step3
        refine ⟨rfl, ⟨stepW acc r, e, !dd, A', m + 1, c', _, _, _, _, _, _, _, _, _, _, _, _, _, _, _, _, _, _, _, _, _, _, _, _, _, _, _, _, _, _, _, _, _, _, _, _, _, _, _, _, _, _, _, _, _, _, _, rfl, Lib.hid ⟨HROW.out, HBEL.out, by omega, by omega, HFF.out⟩⟩, ?_⟩
        simp [intOf]
        omega
  · intro hpass
    go_wp2_with (go_at_call 46; refine (HLow.out _).mono ?_; rintro e w0 ⟨rfl, hb0⟩)
    go_step3
    rename_i hK
    exact hK _ _ (hpass.out _ _ ⟨[], 0, false, none, 0, 0, _, _, _, _, _, _, _, _, _, _, _, _, _, _, _, _, _, _, _, _, _, _, _, _, _, _, _, _, _, _, _, _, _, _, _, _, _, _, _, _, _, _, _, _, _, _, _, rfl, Lib.hid ⟨WdRow.nil _ _, hb0, by omega, by omega, HF.out⟩⟩)
end Go.Proofs.YthmlggglemnfgaaDoor
