/-
  The document's own parts: a row of parts in memory, the last one under way.
-/
import Derived.Test.YtbpcoiblddhnjaaDoorWfWord
import Derived.Test.YtbpcoiblddhnjaaDoorWdSame
import Derived.Test.YtbpcoiblddhnjaaDoorChRefLower
import Derived.BigRegion
import Derived.Test.YtbpcoiblddhnjaaDoorGnIdx
namespace Nwl
theorem getLastD_get (s : ByteArray) (h : 0 < s.size) : (bs s).getLastD 0 = s[s.size - 1] := by
  have hl := bs_length s
  rw [List.getLastD_eq_getLast?, List.getLast?_eq_getElem?, hl, List.getElem?_eq_getElem (by omega)]
  rfl
end Nwl
namespace Go.Proofs.YtbpcoiblddhnjaaDoor
open Nwl
open Go.RowKit Go.Maps
set_option linter.unusedVariables false

def ptC (p : Pt) : List Value := [.string (tx p.s), .bool p.dash, .bool p.num]
def ptCells (l : List Pt) : List Value := l.flatMap ptC
theorem ptCells_len : ∀ (l : List Pt), (ptCells l).length = l.length * 3
  | [] => rfl
  | a :: l => by
    have := ptCells_len l
    show (ptC a ++ ptCells l).length = _
    rw [List.length_append, this, List.length_cons]
    show 3 + _ = _
    omega
theorem ptCells_app (a b : List Pt) : ptCells (a ++ b) = ptCells a ++ ptCells b := by simp [ptCells]
theorem ptCells_one (p : Pt) : ptCells [p] = ptC p := by simp [ptCells]
theorem ptCells_get : ∀ (l : List Pt) (j : Nat) (h : j < l.length), (ptCells l)[j * 3]? = some (.string (tx l[j].s)) ∧ (ptCells l)[j * 3 + 1]? = some (.bool l[j].dash) ∧ (ptCells l)[j * 3 + 2]? = some (.bool l[j].num)
  | a :: l, 0, h => ⟨rfl, rfl, rfl⟩
  | a :: l, j + 1, h => by
    have := ptCells_get l j (by simpa using h)
    have e : ptCells (a :: l) = .string (tx a.s) :: .bool a.dash :: .bool a.num :: ptCells l := rfl
    rw [e]
    have e1 : (j + 1) * 3 = j * 3 + 1 + 1 + 1 := by omega
    rw [e1]
    simpa using this
/-- a row of parts that was made from block B on: those that are closed, and the one under way -/
def PtRow (B : Nat) (w : World) (g m c : Nat) (init : List Pt) (last : Pt) : Prop :=
  m = init.length ∧ w.ownsRow B 93 3 (.slice (some ⟨g, 0, none⟩) (m + 1) c) (m + 1) (ptCells (init ++ [last]))
theorem own_set {w : World} {B g n c size : Nat} {e : TypeId} {xs : List Value} (h : w.ownsRow B e size (.slice (some ⟨g, 0, none⟩) n c) n xs) (i : Nat) (u : Value) : (w.setCell ⟨g, i, none⟩ u).ownsRow B e size (.slice (some ⟨g, 0, none⟩) n c) n (xs.set i u) := by
  refine ⟨by rw [List.length_set]; exact h.1, ?_⟩
  rcases h.2 with ⟨hv, h1⟩ | ⟨g', cap, cur, hv, hg, hh, hc, hx, hs, ht⟩
  · cases hv
  · injection hv with e1 e2 e3
    injection e1 with e1
    injection e1 with e1
    subst e1 e3
    refine .inr ⟨g, c, cur.setIfInBounds i u, rfl, hg, ?_, hc, hx, by simpa using hs, ?_⟩
    · simp [World.setCell, Array.getElem?_modify, hh]
    · rw [← ht]
      simp [List.take_set]
theorem PtRow.set {B g m c : Nat} {w : World} {init : List Pt} {last last' : Pt} (h : PtRow B w g m c init last) (i : Nat) (u : Value) (hi : (ptC last).set i u = ptC last') : PtRow B (w.setCell ⟨g, m * 3 + i, none⟩ u) g m c init last' := by
  obtain ⟨hm, h⟩ := h
  refine ⟨hm, ?_⟩
  have := own_set h (m * 3 + i) u
  have e := List.set_append_right (s := ptCells init) (t := ptC last) (m * 3 + i) u (by rw [ptCells_len]; omega)
  rw [ptCells_len, ← hm, Nat.add_sub_cancel_left, hi] at e
  rw [ptCells_app, ptCells_one, e, ← ptCells_one, ← ptCells_app] at this
  exact this
theorem PtRow.cells {B g m c : Nat} {w : World} {init : List Pt} {last : Pt} (h : PtRow B w g m c init last) : B ≤ g ∧ g < w.heap.size ∧ m + 1 ≤ c ∧ c ≤ maxLen ∧ (∀ j, j < m + 1 → w.frozen? ⟨g, j * 3, none⟩ = false ∧ w.frozen? ⟨g, j * 3 + 2, none⟩ = false) ∧ ∀ j (hj : j < (init ++ [last]).length), w.cell? ⟨g, j * 3, none⟩ = some (.string (tx (init ++ [last])[j].s)) ∧ w.cell? ⟨g, j * 3 + 1, none⟩ = some (.bool (init ++ [last])[j].dash) ∧ w.cell? ⟨g, j * 3 + 2, none⟩ = some (.bool (init ++ [last])[j].num) := by
  obtain ⟨hm, h⟩ := h
  have h0 := h
  rcases h.2 with ⟨hv, h1⟩ | ⟨g', cap, cur, hv, hg, hh, hc, hx, hs, ht⟩
  · cases hv
  · injection hv with e1 e2 e3
    injection e1 with e1
    injection e1 with e1
    subst e1 e3
    refine ⟨hg, (Array.getElem?_eq_some_iff.1 hh).1, hc, hx, fun j _ => ⟨Lib.frozen_of_heap hh _, Lib.frozen_of_heap hh _⟩, fun j hj => ?_⟩
    obtain ⟨q1, q2, q3⟩ := ptCells_get (init ++ [last]) j hj
    have r1 := h0.cells (g := g) rfl _ _ q1
    have r2 := h0.cells (g := g) rfl _ _ q2
    have r3 := h0.cells (g := g) rfl _ _ q3
    rw [addr_add0'] at r1 r2 r3
    exact ⟨r1, r2, r3⟩
theorem PtRow.last {B g m c : Nat} {w : World} {init : List Pt} {last : Pt} (h : PtRow B w g m c init last) : w.cell? ⟨g, m * 3, none⟩ = some (.string (tx last.s)) ∧ w.cell? ⟨g, m * 3 + 1, none⟩ = some (.bool last.dash) ∧ w.cell? ⟨g, m * 3 + 2, none⟩ = some (.bool last.num) := by
  have hm := h.1
  have := h.cells.2.2.2.2.2 m (by simp; omega)
  have e : (init ++ [last])[m]'(by simp; omega) = last := by
    subst hm
    simp
  rw [e] at this
  exact this
theorem info_pt : (Tryd.prog.info? 93).map (fun i => (i.zero, i.size, i.bytes)) = some (some (.agg #[.string ⟨#[]⟩, .bool false, .bool false]), 3, 24) := by kernel_rfl
theorem cells_three_new (w : World) (x0 x1 x2 : Value) (t : TypeId) : ∀ j u, [x0, x1, x2][j]? = some u → (w.alloc (.cells #[x0, x1, x2] t)).cell? ((⟨w.heap.size, 0, none⟩ : Addr).add j) = some u := by
  intro j u hj
  match j, hj with
  | 0, hj => simp at hj; subst hj; simp [Addr.add]
  | 1, hj => simp at hj; subst hj; simp [Addr.add]
  | 2, hj => simp at hj; subst hj; simp [Addr.add]
  | j + 3, hj => simp at hj
theorem three_oneCell (a : ByteArray) (x y : Bool) : ∀ u ∈ [Value.string a, Value.bool x, Value.bool y], u.oneCell' = true := by
  intro u hu
  simp at hu
  rcases hu with rfl | rfl | rfl <;> rfl
theorem own_made1 (w : World) (t : TypeId) (xs : List Value) (size : Nat) (h : xs.length = size) : (w.alloc (.cells xs.toArray t)).ownsRow w.heap.size t size (.slice (some ⟨w.heap.size, 0, none⟩) 1 1) 1 xs := by
  refine ⟨by omega, .inr ⟨w.heap.size, 1, xs.toArray, rfl, Nat.le_refl _, heap_alloc_new w _, Nat.le_refl _, by decide, by simp [h], by rw [Nat.one_mul]; exact List.take_of_length_le (by rw [h]; exact Nat.le_refl _)⟩⟩
theorem PtRow.new (w : World) : PtRow w.heap.size (w.alloc (.cells #[.string ⟨#[]⟩, .bool false, .bool false] 93)) w.heap.size 0 1 [] ⟨[], false, false⟩ := ⟨rfl, own_made1 w _ (ptC ⟨[], false, false⟩) 3 rfl⟩
/-- a row that was appended to -/
theorem PtRow.grown {B m : Nat} {w5 : World} {v : Value} {init : List Pt} {last p : Pt} (hm : m = init.length) (h : w5.ownsRow B 93 3 v (m + 1 + 1) (ptCells (init ++ [last]) ++ ptC p)) : ∃ g c, v = .slice (some ⟨g, 0, none⟩) (m + 1 + 1) c ∧ PtRow B w5 g (m + 1) c (init ++ [last]) p := by
  have h' : w5.ownsRow B 93 3 v (m + 1 + 1) (ptCells ((init ++ [last]) ++ [p])) := by rw [ptCells_app, ptCells_one]; exact h
  rcases h.2 with ⟨hv, h1⟩ | ⟨g, cap, cur, hv, _⟩
  · omega
  · subst hv
    exact ⟨g, cap, rfl, by rw [List.length_append, hm]; rfl, h'⟩
theorem PtRow.heap {B g m c : Nat} {w w' : World} {init : List Pt} {last : Pt} (h : PtRow B w g m c init last) (hh : w'.heap = w.heap) : PtRow B w' g m c init last := by
  obtain ⟨hm, h⟩ := h
  refine ⟨hm, h.1, ?_⟩
  rw [hh]
  exact h.2
theorem bs_one' (s : ByteArray) (k : Nat) (h : k < s.size) : s.extract k (k + 1) = tx [s[k]] := by
  apply bs_inj
  have hl := bs_length s
  rw [bs_extract, bs_tx, List.drop_eq_getElem_cons (by omega), bs_get s k h]
  simp
theorem stepR_sep (st : List Pt × Pt) (c : UInt8) (h : sep8 c = true) : stepR st c = (st.1 ++ [st.2], ⟨[], c.toNat == 45, false⟩) := by unfold stepR; rw [if_pos h]
theorem stepR_new (st : List Pt × Pt) (c : UInt8) (h : sep8 c = false) (hs : st.2.s ≠ []) (hd : ¬ dig8 (st.2.s.getLastD 0) = dig8 c) : stepR st c = (st.1 ++ [⟨st.2.s, st.2.dash, dig8 c⟩], ⟨[c], true, false⟩) := by
  unfold stepR
  rw [if_neg (by rw [h]; decide), if_pos]
  simp only [Bool.and_eq_true, Bool.not_eq_true', bne_iff_ne]
  exact ⟨by simpa using hs, hd⟩
theorem stepR_on (st : List Pt × Pt) (c : UInt8) (h : sep8 c = false) (hs : st.2.s = [] ∨ dig8 (st.2.s.getLastD 0) = dig8 c) : stepR st c = (st.1, ⟨st.2.s ++ [c], st.2.dash, st.2.num⟩) := by
  unfold stepR
  rw [if_neg (by rw [h]; decide), if_neg]
  simp only [Bool.and_eq_true, Bool.not_eq_true', bne_iff_ne, not_and]
  intro h1 h2
  rcases hs with hs | hs
  · rw [hs] at h1; cases h1
  · exact h2 hs

set_option maxRecDepth 100000 in
set_option maxHeartbeats 4000000 in
theorem refparts_c (v : ByteArray) (w : World) (hs : v.size ≤ 100000) :
    Calls Tryd.prog 57 #[.string v] w fun e w' => ∃ g m c, e = .returned (.slice (some ⟨g, 0, none⟩) (m + 1) c) ∧ Hid (PtRow w.heap.size w' g m c (stR (bs v)).1 (stR (bs v)).2) ∧ Hid (Below w.heap.size w w') := by
  obtain ⟨i0, hi, hz0, hz1, hz2⟩ := info_parts info_pt
  have HNEW := Lib.hid (PtRow.new w)
  go_enter Tryd.func57, Tryd.ntmps57
  go_wp2_with fail
  go_loopw [3, 4] (fun lv i wr => ∃ k g m c : Nat, k ≤ v.size ∧ lv = .slice (some ⟨g, 0, none⟩) (m + 1) c ∧ i = .int .i64 k ∧ Hid (PtRow w.heap.size wr g m c (stR ((bs v).take k)).1 (stR ((bs v).take k)).2) ∧ Hid (Below w.heap.size w wr)) (fun _ i _ => v.size - (intOf i).toNat)
  case atStart => exact ⟨0, w.heap.size, 0, 1, Nat.zero_le _, rfl, rfl, HNEW, Lib.hid ((Below.refl _ _).alloc (Nat.le_refl _) _)⟩
  case round =>
    obtain ⟨k, g, m, c, hk, rfl, rfl, hrow, hbel⟩ := hrel
    by_cases hlt : k < v.size
    · have hst : stR ((bs v).take (k + 1)) = stepR (stR ((bs v).take k)) v[k] := by
        have hl := bs_length v
        rw [← List.take_append_getElem (l := bs v) (i := k) (by omega), stR_snoc, bs_get v k hlt]
      obtain ⟨l1, l2⟩ := stR_len ((bs v).take k)
      rw [List.length_take] at l1 l2
      have hnum := stR_num ((bs v).take k)
      obtain ⟨⟨init, last⟩, hsti⟩ : ∃ st, stR ((bs v).take k) = st := ⟨_, rfl⟩
      rw [hsti] at hst hrow l1 l2 hnum
      clear hsti
      have hrow : Hid (PtRow w.heap.size wr g m c init last) := hrow
      have hm := hrow.out.1
      obtain ⟨hBg, hgw, hmc, hcm, hfz, _⟩ := hrow.out.cells
      obtain ⟨q0, q1, q2⟩ := hrow.out.last
      obtain ⟨f0, f2⟩ := hfz m (by omega)
      have hbs := hbel.out.size
      unfold maxLen at hcm
      simp only at l1 l2 hnum
      have hm5 : m ≤ 100000 := by omega
      clear hfz hm
      cases hsep : sep8 v[k] with
      | true =>
        have hs1 := stepR_sep (init, last) v[k] hsep
        rw [hs1] at hst
        have hv : (v[k].toNat : Int) = 46 ∨ (v[k].toNat : Int) = 45 := by
          unfold sep8 sepI at hsep
          simpa using hsep
        have HOA := Lib.hid (hrow.out.2.alloc (.cells #[.string ⟨#[]⟩, .bool (v[k].toNat == 45), .bool false] 93))
        have HNEWS := Lib.hid (cells_three_new wr (.string ⟨#[]⟩) (.bool (v[k].toNat == 45)) (.bool false) 93)
        have HST := Lib.hid hst
        have HRM := Lib.hid hrow.out.1
        clear hst hs1 hsep hnum
        rcases hv with hv | hv
        · have hvn : (v[k].toNat == 45) = false := by rw [beq_eq_false_iff_ne]; omega
          rw [hvn] at HOA HNEWS HST
          clear hvn
          go_wp2_with (at_builtin; go_must (refine wpList_append_own_at _ rfl _ _ 89 rfl w.heap.size 93 i0 _ 3 24 Tryd.underlying89 hi hz0 hz1 hz2 rfl (by decide) _ (m + 1) (ptCells (init ++ [last])) rfl HOA.out ⟨wr.heap.size, 0, none⟩ 1 1 [.string ⟨#[]⟩, .bool false, .bool false] rfl rfl HNEWS.out (three_oneCell _ _ _) (by unfold maxLen; omega) (by omega) (by simp; omega) ?_); intro v' w5 hown5 hgrow5 _ _)
          have hbel5 := (hbel.out.alloc hbs _).grown hgrow5 (by simp; omega) (fun q hq => (HOA.out.lt q hq).1)
          obtain ⟨g5, c5, rfl, row5⟩ := PtRow.grown (last := last) (p := ⟨[], false, false⟩) HRM.out hown5
          have ROW5 : Hid (PtRow w.heap.size w5 g5 (m + 1) c5 (stR ((bs v).take (k + 1))).1 (stR ((bs v).take (k + 1))).2) := Lib.hid (by rw [HST.out]; exact row5)
          have BEL5 := Lib.hid hbel5
          clear hown5 hgrow5 row5 hbel5 HOA HNEWS HST hrow hbel
          go_wp2_with fail
          go_roundw
          case rel => exact ⟨k + 1, g5, m + 1, c5, by omega, rfl, by go_num, ROW5, BEL5⟩
          case measure => simp [intOf]; omega
        · have hvn : (v[k].toNat == 45) = true := by rw [beq_iff_eq]; omega
          rw [hvn] at HOA HNEWS HST
          clear hvn
          go_wp2_with (at_builtin; go_must (refine wpList_append_own_at _ rfl _ _ 89 rfl w.heap.size 93 i0 _ 3 24 Tryd.underlying89 hi hz0 hz1 hz2 rfl (by decide) _ (m + 1) (ptCells (init ++ [last])) rfl HOA.out ⟨wr.heap.size, 0, none⟩ 1 1 [.string ⟨#[]⟩, .bool true, .bool false] rfl rfl HNEWS.out (three_oneCell _ _ _) (by unfold maxLen; omega) (by omega) (by simp; omega) ?_); intro v' w5 hown5 hgrow5 _ _)
          have hbel5 := (hbel.out.alloc hbs _).grown hgrow5 (by simp; omega) (fun q hq => (HOA.out.lt q hq).1)
          obtain ⟨g5, c5, rfl, row5⟩ := PtRow.grown (last := last) (p := ⟨[], true, false⟩) HRM.out hown5
          have ROW5 : Hid (PtRow w.heap.size w5 g5 (m + 1) c5 (stR ((bs v).take (k + 1))).1 (stR ((bs v).take (k + 1))).2) := Lib.hid (by rw [HST.out]; exact row5)
          have BEL5 := Lib.hid hbel5
          clear hown5 hgrow5 row5 hbel5 HOA HNEWS HST hrow hbel
          go_wp2_with fail
          go_roundw
          case rel => exact ⟨k + 1, g5, m + 1, c5, by omega, rfl, by go_num, ROW5, BEL5⟩
          case measure => simp [intOf]; omega
      | false =>
        have h46 : ((v[k].toNat : Int) == 46) = false := by unfold sep8 sepI at hsep; simp only [Bool.or_eq_false_iff] at hsep; exact hsep.1
        have h45 : ((v[k].toNat : Int) == 45) = false := by unfold sep8 sepI at hsep; simp only [Bool.or_eq_false_iff] at hsep; exact hsep.2
        obtain ⟨S, hS⟩ : ∃ S, tx last.s = S := ⟨_, rfl⟩
        have hSz : S.size ≤ 100000 := by rw [← hS, tx_size]; omega
        have hcat : S ++ v.extract k (k + 1) = tx (last.s ++ [v[k]]) := by rw [← hS, bs_one' v k hlt, txA]
        have hz1' : (v.extract k (k + 1)).size = 1 := by rw [bs_one' v k hlt]; rfl
        rw [hS] at q0
        by_cases hemp : last.s = []
        · have he : S.toList = [] := by rw [← hS, toList_bs, bs_tx]; exact hemp
          have hs1 := stepR_on (init, last) v[k] hsep (.inl hemp)
          rw [hs1] at hst
          have ROW5 : Hid (∀ wx : World, wx.heap = wr.heap → PtRow w.heap.size (wx.setCell ⟨g, m * 3, none⟩ (.string (tx (last.s ++ [v[k]])))) g m c (stR ((bs v).take (k + 1))).1 (stR ((bs v).take (k + 1))).2) := Lib.hid fun wx hx => by
            rw [hst]
            exact (hrow.out.heap hx).set 0 _ rfl
          clear hst hs1 hsep hnum hS hemp q1 q2
          go_wp2_with fail
          go_quiet (fail)
          go_wp2_with fail
          go_region
          all_goals go_wp2_with fail
          all_goals go_roundw
          all_goals first
            | exact ⟨k + 1, g, m, c, by omega, rfl, by go_num, Lib.hid (ROW5.out _ rfl), Lib.hid ((below_drewN hbel.out _).setCell hBg _)⟩
            | (simp [intOf]; omega)
        · have hpos : 0 < S.size := by
            rw [← hS, tx_size]
            cases h : last.s with
            | nil => exact absurd h hemp
            | cons => simp
          have hne : ¬ S.toList = [] := toList_ne_of S hpos
          have hne2 : S.toList.isEmpty = false := by simpa using hne
          obtain ⟨z, hz⟩ : ∃ z, S.size = z + 1 := ⟨S.size - 1, by omega⟩
          have hzl : z < S.size := by omega
          have hwz : IntKind.i64.wrap (z : Int) = z := by rw [IntWalk.i64_in _ (by omega)]
          have hwz2 : IntKind.i64.wrap ((z : Int) + 1 - 1) = z := by rw [IntWalk.i64_in _ (by omega)]; omega
          have hwz3 : IntKind.i64.wrap ((S.size : Int) - 1) = z := by rw [IntWalk.i64_in _ (by omega)]; omega
          have hlastd : dig8 (last.s.getLastD 0) = digitI S[z].toNat := by
            have h1 : last.s = bs S := by rw [← hS, bs_tx]
            have h2 := getLastD_get S hpos
            have h3 : S.size - 1 = z := by omega
            rw [h1, h2]
            simp only [h3]
            rfl
          clear hz hwz2
          have hzi : (z : Int) < (S.size : Int) := by omega
          obtain ⟨d1, h1⟩ : ∃ d, digitI S[z].toNat = d := ⟨_, rfl⟩
          obtain ⟨d2, h2⟩ : ∃ d, digitI v[k].toNat = d := ⟨_, rfl⟩
          have h2' : dig8 v[k] = d2 := h2
          rw [h1] at hlastd
          by_cases hdd : d1 = d2
          · have hs1 := stepR_on (init, last) v[k] hsep (.inr (by show dig8 (last.s.getLastD 0) = _; rw [hlastd, h2', hdd]))
            rw [hs1] at hst
            have ROW5 : Hid (∀ wx : World, wx.heap = wr.heap → PtRow w.heap.size (wx.setCell ⟨g, m * 3, none⟩ (.string (tx (last.s ++ [v[k]])))) g m c (stR ((bs v).take (k + 1))).1 (stR ((bs v).take (k + 1))).2) := Lib.hid fun wx hx => by
              rw [hst]
              exact (hrow.out.heap hx).set 0 _ rfl
            clear hst hs1 hsep hnum hS hemp q1 q2 hlastd h2' hpos
            go_wp2_with fail
            go_quiet (first
              | (go_at_call 75; exact Calls.quiet_of_same ((refDigit_c _ _).mono fun _ _ h => ⟨by rw [h.1, h1], h.2.symm⟩))
              | (go_at_call 75; exact Calls.quiet_of_same ((refDigit_c _ _).mono fun _ _ h => ⟨by rw [h.1, h2], h.2.symm⟩)))
            go_wp2_with fail
            go_region
            all_goals go_wp2_with fail
            all_goals go_roundw
            all_goals first
              | exact ⟨k + 1, g, m, c, by omega, rfl, by go_num, Lib.hid (ROW5.out _ rfl), Lib.hid ((below_drewN hbel.out _).setCell hBg _)⟩
              | (simp [intOf]; omega)
          · have hs1 := stepR_new (init, last) v[k] hsep hemp (by show ¬ dig8 (last.s.getLastD 0) = _; rw [hlastd, h2']; exact hdd)
            rw [hs1, h2'] at hst
            have hdb : (d1 == d2) = false := by rw [beq_eq_false_iff_ne]; exact hdd
            have hrow2 : ∀ wx : World, wx.heap = wr.heap → PtRow w.heap.size (wx.setCell ⟨g, m * 3 + 2, none⟩ (.bool d2)) g m c init ⟨last.s, last.dash, d2⟩ := fun wx hx => (hrow.out.heap hx).set 2 _ rfl
            obtain ⟨last2, hl2⟩ : ∃ q : Pt, (⟨last.s, last.dash, d2⟩ : Pt) = q := ⟨_, rfl⟩
            rw [hl2] at hrow2
            have hst2 : stR ((bs v).take (k + 1)) = (init ++ [last2], ⟨[v[k]], true, false⟩) := by rw [hst, ← hl2]
            have HR2 := Lib.hid hrow2
            have HST := Lib.hid hst2
            clear hl2 hst2
            have HRM := Lib.hid hrow.out.1
            have hcat2 : tx [] ++ v.extract k (k + 1) = tx [v[k]] := by rw [bs_one' v k hlt, txA]; rfl
            have hzz : (tx []).size = 0 := rfl
            clear hst hs1 hsep hnum hS hemp hlastd h2' hpos hrow2
            go_wp2_with fail
            go_quiet (first
              | (go_at_call 75; exact Calls.quiet_of_same ((refDigit_c _ _).mono fun _ _ h => ⟨by rw [h.1, h1], h.2.symm⟩))
              | (go_at_call 75; exact Calls.quiet_of_same ((refDigit_c _ _).mono fun _ _ h => ⟨by rw [h.1, h2], h.2.symm⟩)))
            have HOA := Lib.hid ((HR2.out (wr.drewN nq) rfl).2.alloc (.cells #[.string ⟨#[]⟩, .bool true, .bool false] 93))
            have hnews := cells_three_new ((wr.drewN nq).setCell ⟨g, m * 3 + 2, none⟩ (.bool d2)) (.string ⟨#[]⟩) (.bool true) (.bool false) 93
            have hsz2 : ((wr.drewN nq).setCell ⟨g, m * 3 + 2, none⟩ (.bool d2)).heap.size = wr.heap.size := by simp [World.setCell]
            rw [hsz2] at hnews
            have HNEWS := Lib.hid hnews
            clear hnews
            have hb2 : Below w.heap.size w ((wr.drewN nq).setCell ⟨g, m * 3 + 2, none⟩ (.bool d2)) := (below_drewN hbel.out _).setCell hBg _
            have HB2 := Lib.hid hb2
            have hbs2 := hb2.size
            clear hb2 hsz2
            go_wp2_with (first
            | (go_at_call 75; refine (refDigit_c _ _).mono ?_; rintro e w' ⟨rfl, rfl⟩)
            | (at_builtin; go_must (refine wpList_append_own_at _ rfl _ _ 89 rfl w.heap.size 93 i0 _ 3 24 Tryd.underlying89 hi hz0 hz1 hz2 rfl (by decide) _ (m + 1) (ptCells (init ++ [last2])) rfl HOA.out ⟨wr.heap.size, 0, none⟩ 1 1 [.string ⟨#[]⟩, .bool true, .bool false] rfl rfl HNEWS.out (three_oneCell _ _ _) (by unfold maxLen; omega) (by omega) (by simp; omega) ?_); intro v' w5 hown5 hgrow5 _ _; have hx5 := PtRow.grown (last := last2) (p := ⟨[], true, false⟩) HRM.out hown5; obtain ⟨g5, c5, rfl, row5⟩ := hx5))
            have hbel5 := (HB2.out.alloc hbs2 _).grown hgrow5 (by simp; omega) (fun q hq => (HOA.out.lt q hq).1)
            obtain ⟨hBg5, hgw5, hmc5, hcm5, hfz5, _⟩ := row5.cells
            obtain ⟨y0, y1, y2⟩ := row5.last
            obtain ⟨z0, _⟩ := hfz5 (m + 1) (by omega)
            simp only at y0
            unfold maxLen at hcm5
            have ROW6 : Hid (∀ wx : World, wx.heap = w5.heap → PtRow w.heap.size (wx.setCell ⟨g5, (m + 1) * 3, none⟩ (.string (tx [v[k]]))) g5 (m + 1) c5 (stR ((bs v).take (k + 1))).1 (stR ((bs v).take (k + 1))).2) := Lib.hid fun wx hx => by
              rw [HST.out]
              exact (row5.heap hx).set 0 _ rfl
            have BEL5 := Lib.hid hbel5
            clear hown5 hgrow5 row5 hbel5 HOA HNEWS HST HR2 HB2 hrow hbel q0 q1 q2 f0 f2 y1 y2 hfz5
            go_region
            all_goals go_wp2_with fail
            all_goals go_roundw
            all_goals first
              | exact ⟨k + 1, g5, m + 1, c5, by omega, rfl, by go_num, Lib.hid (ROW6.out _ rfl), Lib.hid (BEL5.out.drew.setCell hBg5 _)⟩
              | (simp [intOf]; omega)
    · obtain rfl : k = v.size := by omega
      have hfull : (bs v).take v.size = bs v := List.take_of_length_le (by rw [bs_length]; omega)
      rw [hfull] at hrow
      clear hfull
      go_wp2_with fail
      go_ret
      exact ⟨g, m, c, rfl, hrow, hbel⟩
end Go.Proofs.YtbpcoiblddhnjaaDoor
