/-
  The document's own parts: a row of parts in memory, the last one under way. The document's own Split: the words of any text.
-/
import Derived.Test.YthmlggglemnfgaaDoorWa
import Derived.Test.YthmlggglemnfgaaDoorBd
import Derived.BigRegion
import Derived.Test.YthmlggglemnfgaaDoorWfWord2
import Derived.Deep.DeepCutAuto
import Derived.Maps.AppendAt
namespace Nwl
theorem getLastD_get (s : ByteArray) (h : 0 < s.size) : (bs s).getLastD 0 = s[s.size - 1] := by
  have hl := bs_length s
  rw [List.getLastD_eq_getLast?, List.getLast?_eq_getElem?, hl, List.getElem?_eq_getElem (by omega)]
  rfl
end Nwl
namespace Go.Proofs.YthmlggglemnfgaaDoor
open Nwl
open Go.RowKit Go.Maps
set_option linter.unusedVariables false

def ptC (p : Pt) : List Value := [.string (tx p.s), .bool p.dash, .bool p.num]
def ptCells (l : List Pt) : List Value := l.flatMap ptC
theorem ptCells_len : ∀ (l : List Pt), (ptCells l).length = l.length * 3
  | [] => rfl
  | a :: l => by
    have := ptCells_len l
    show (ptC a ++ ptCells l).length = _
    rw [List.length_append, this, List.length_cons]
    show 3 + _ = _
    omega
theorem ptCells_app (a b : List Pt) : ptCells (a ++ b) = ptCells a ++ ptCells b := by simp [ptCells]
theorem ptCells_one (p : Pt) : ptCells [p] = ptC p := by simp [ptCells]
theorem ptCells_get : ∀ (l : List Pt) (j : Nat) (h : j < l.length), (ptCells l)[j * 3]? = some (.string (tx l[j].s)) ∧ (ptCells l)[j * 3 + 1]? = some (.bool l[j].dash) ∧ (ptCells l)[j * 3 + 2]? = some (.bool l[j].num)
  | a :: l, 0, h => ⟨rfl, rfl, rfl⟩
  | a :: l, j + 1, h => by
    have := ptCells_get l j (by simpa using h)
    have e : ptCells (a :: l) = .string (tx a.s) :: .bool a.dash :: .bool a.num :: ptCells l := rfl
    rw [e]
    have e1 : (j + 1) * 3 = j * 3 + 1 + 1 + 1 := by omega
    rw [e1]
    simpa using this
/-- a row of parts that was made from block B on: those that are closed, and the one under way -/
def PtRow (B : Nat) (w : World) (g m c : Nat) (init : List Pt) (last : Pt) : Prop :=
  m = init.length ∧ w.ownsRow B 71 3 (.slice (some ⟨g, 0, none⟩) (m + 1) c) (m + 1) (ptCells (init ++ [last]))
theorem own_set {w : World} {B g n c size : Nat} {e : TypeId} {xs : List Value} (h : w.ownsRow B e size (.slice (some ⟨g, 0, none⟩) n c) n xs) (i : Nat) (u : Value) : (w.setCell ⟨g, i, none⟩ u).ownsRow B e size (.slice (some ⟨g, 0, none⟩) n c) n (xs.set i u) := by
  refine ⟨by rw [List.length_set]; exact h.1, ?_⟩
  rcases h.2 with ⟨hv, h1⟩ | ⟨g', cap, cur, hv, hg, hh, hc, hx, hs, ht⟩
  · cases hv
  · injection hv with e1 e2 e3
    injection e1 with e1
    injection e1 with e1
    subst e1 e3
    refine .inr ⟨g, c, cur.setIfInBounds i u, rfl, hg, ?_, hc, hx, by simpa using hs, ?_⟩
    · simp [World.setCell, Array.getElem?_modify, hh]
    · rw [← ht]
      simp [List.take_set]
theorem PtRow.set {B g m c : Nat} {w : World} {init : List Pt} {last last' : Pt} (h : PtRow B w g m c init last) (i : Nat) (u : Value) (hi : (ptC last).set i u = ptC last') : PtRow B (w.setCell ⟨g, m * 3 + i, none⟩ u) g m c init last' := by
  obtain ⟨hm, h⟩ := h
  refine ⟨hm, ?_⟩
  have := own_set h (m * 3 + i) u
  have e := List.set_append_right (s := ptCells init) (t := ptC last) (m * 3 + i) u (by rw [ptCells_len]; omega)
  rw [ptCells_len, ← hm, Nat.add_sub_cancel_left, hi] at e
  rw [ptCells_app, ptCells_one, e, ← ptCells_one, ← ptCells_app] at this
  exact this
theorem PtRow.cells {B g m c : Nat} {w : World} {init : List Pt} {last : Pt} (h : PtRow B w g m c init last) : B ≤ g ∧ g < w.heap.size ∧ m + 1 ≤ c ∧ c ≤ maxLen ∧ (∀ j, j < m + 1 → w.frozen? ⟨g, j * 3, none⟩ = false ∧ w.frozen? ⟨g, j * 3 + 2, none⟩ = false) ∧ ∀ j (hj : j < (init ++ [last]).length), w.cell? ⟨g, j * 3, none⟩ = some (.string (tx (init ++ [last])[j].s)) ∧ w.cell? ⟨g, j * 3 + 1, none⟩ = some (.bool (init ++ [last])[j].dash) ∧ w.cell? ⟨g, j * 3 + 2, none⟩ = some (.bool (init ++ [last])[j].num) := by
  obtain ⟨hm, h⟩ := h
  have h0 := h
  rcases h.2 with ⟨hv, h1⟩ | ⟨g', cap, cur, hv, hg, hh, hc, hx, hs, ht⟩
  · cases hv
  · injection hv with e1 e2 e3
    injection e1 with e1
    injection e1 with e1
    subst e1 e3
    refine ⟨hg, (Array.getElem?_eq_some_iff.1 hh).1, hc, hx, fun j _ => ⟨Lib.frozen_of_heap hh _, Lib.frozen_of_heap hh _⟩, fun j hj => ?_⟩
    obtain ⟨q1, q2, q3⟩ := ptCells_get (init ++ [last]) j hj
    have r1 := h0.cells (g := g) rfl _ _ q1
    have r2 := h0.cells (g := g) rfl _ _ q2
    have r3 := h0.cells (g := g) rfl _ _ q3
    rw [addr_add0'] at r1 r2 r3
    exact ⟨r1, r2, r3⟩
theorem PtRow.last {B g m c : Nat} {w : World} {init : List Pt} {last : Pt} (h : PtRow B w g m c init last) : w.cell? ⟨g, m * 3, none⟩ = some (.string (tx last.s)) ∧ w.cell? ⟨g, m * 3 + 1, none⟩ = some (.bool last.dash) ∧ w.cell? ⟨g, m * 3 + 2, none⟩ = some (.bool last.num) := by
  have hm := h.1
  have := h.cells.2.2.2.2.2 m (by simp; omega)
  have e : (init ++ [last])[m]'(by simp; omega) = last := by
    subst hm
    simp
  rw [e] at this
  exact this
theorem info_pt : (Tryd.prog.info? 71).map (fun i => (i.zero, i.size, i.bytes)) = some (some (.agg #[.string ⟨#[]⟩, .bool false, .bool false]), 3, 24) := by kernel_rfl
theorem cells_three_new (w : World) (x0 x1 x2 : Value) (t : TypeId) : ∀ j u, [x0, x1, x2][j]? = some u → (w.alloc (.cells #[x0, x1, x2] t)).cell? ((⟨w.heap.size, 0, none⟩ : Addr).add j) = some u := by
  intro j u hj
  match j, hj with
  | 0, hj => simp at hj; subst hj; simp [Addr.add]
  | 1, hj => simp at hj; subst hj; simp [Addr.add]
  | 2, hj => simp at hj; subst hj; simp [Addr.add]
  | j + 3, hj => simp at hj
theorem three_oneCell (a : ByteArray) (x y : Bool) : ∀ u ∈ [Value.string a, Value.bool x, Value.bool y], u.oneCell' = true := by
  intro u hu
  simp at hu
  rcases hu with rfl | rfl | rfl <;> rfl
theorem own_made1 (w : World) (t : TypeId) (xs : List Value) (size : Nat) (h : xs.length = size) : (w.alloc (.cells xs.toArray t)).ownsRow w.heap.size t size (.slice (some ⟨w.heap.size, 0, none⟩) 1 1) 1 xs := by
  refine ⟨by omega, .inr ⟨w.heap.size, 1, xs.toArray, rfl, Nat.le_refl _, heap_alloc_new w _, Nat.le_refl _, by decide, by simp [h], by rw [Nat.one_mul]; exact List.take_of_length_le (by rw [h]; exact Nat.le_refl _)⟩⟩
theorem PtRow.new (w : World) : PtRow w.heap.size (w.alloc (.cells #[.string ⟨#[]⟩, .bool false, .bool false] 71)) w.heap.size 0 1 [] ⟨[], false, false⟩ := ⟨rfl, own_made1 w _ (ptC ⟨[], false, false⟩) 3 rfl⟩
/-- a row that was appended to -/
theorem PtRow.grown {B m : Nat} {w5 : World} {v : Value} {init : List Pt} {last p : Pt} (hm : m = init.length) (h : w5.ownsRow B 71 3 v (m + 1 + 1) (ptCells (init ++ [last]) ++ ptC p)) : ∃ g c, v = .slice (some ⟨g, 0, none⟩) (m + 1 + 1) c ∧ PtRow B w5 g (m + 1) c (init ++ [last]) p := by
  have h' : w5.ownsRow B 71 3 v (m + 1 + 1) (ptCells ((init ++ [last]) ++ [p])) := by rw [ptCells_app, ptCells_one]; exact h
  rcases h.2 with ⟨hv, h1⟩ | ⟨g, cap, cur, hv, _⟩
  · omega
  · subst hv
    exact ⟨g, cap, rfl, by rw [List.length_append, hm]; rfl, h'⟩
theorem PtRow.heap {B g m c : Nat} {w w' : World} {init : List Pt} {last : Pt} (h : PtRow B w g m c init last) (hh : w'.heap = w.heap) : PtRow B w' g m c init last := by
  obtain ⟨hm, h⟩ := h
  refine ⟨hm, h.1, ?_⟩
  rw [hh]
  exact h.2
theorem bs_one' (s : ByteArray) (k : Nat) (h : k < s.size) : s.extract k (k + 1) = tx [s[k]] := by
  apply bs_inj
  have hl := bs_length s
  rw [bs_extract, bs_tx, List.drop_eq_getElem_cons (by omega), bs_get s k h]
  simp
theorem stepR_sep (st : List Pt × Pt) (c : UInt8) (h : sep8 c = true) : stepR st c = (st.1 ++ [st.2], ⟨[], c.toNat == 45, false⟩) := by unfold stepR; rw [if_pos h]
theorem stepR_new (st : List Pt × Pt) (c : UInt8) (h : sep8 c = false) (hs : st.2.s ≠ []) (hd : ¬ dig8 (st.2.s.getLastD 0) = dig8 c) : stepR st c = (st.1 ++ [⟨st.2.s, st.2.dash, dig8 c⟩], ⟨[c], true, false⟩) := by
  unfold stepR
  rw [if_neg (by rw [h]; decide), if_pos]
  simp only [Bool.and_eq_true, Bool.not_eq_true', bne_iff_ne]
  exact ⟨by simpa using hs, hd⟩
theorem stepR_on (st : List Pt × Pt) (c : UInt8) (h : sep8 c = false) (hs : st.2.s = [] ∨ dig8 (st.2.s.getLastD 0) = dig8 c) : stepR st c = (st.1, ⟨st.2.s ++ [c], st.2.dash, st.2.num⟩) := by
  unfold stepR
  rw [if_neg (by rw [h]; decide), if_neg]
  simp only [Bool.and_eq_true, Bool.not_eq_true', bne_iff_ne, not_and]
  intro h1 h2
  rcases hs with hs | hs
  · rw [hs] at h1; cases h1
  · exact h2 hs

set_option maxRecDepth 100000 in
set_option maxHeartbeats 4000000 in
theorem refparts_c (v : ByteArray) (w : World) (hs : v.size ≤ 100000) :
    Calls Tryd.prog 65 #[.string v] w fun e w' => ∃ g m c, e = .returned (.slice (some ⟨g, 0, none⟩) (m + 1) c) ∧ Hid (PtRow w.heap.size w' g m c (stR (bs v)).1 (stR (bs v)).2) ∧ Hid (Below w.heap.size w w') := by
  obtain ⟨i0, hi, hz0, hz1, hz2⟩ := info_parts info_pt
  have HNEW := Lib.hid (PtRow.new w)
  go_enter Tryd.func65, Tryd.ntmps65
  go_wp2_with fail
  go_loopw [3, 4] (fun lv i wr => ∃ k g m c : Nat, k ≤ v.size ∧ lv = .slice (some ⟨g, 0, none⟩) (m + 1) c ∧ i = .int .i64 k ∧ Hid (PtRow w.heap.size wr g m c (stR ((bs v).take k)).1 (stR ((bs v).take k)).2) ∧ Hid (Below w.heap.size w wr)) (fun _ i _ => v.size - (intOf i).toNat)
  case atStart => exact ⟨0, w.heap.size, 0, 1, Nat.zero_le _, rfl, rfl, HNEW, Lib.hid ((Below.refl _ _).alloc (Nat.le_refl _) _)⟩
  case round =>
    obtain ⟨k, g, m, c, hk, rfl, rfl, hrow, hbel⟩ := hrel
    by_cases hlt : k < v.size
    · have hst : stR ((bs v).take (k + 1)) = stepR (stR ((bs v).take k)) v[k] := by
        have hl := bs_length v
        rw [← List.take_append_getElem (l := bs v) (i := k) (by omega), stR_snoc, bs_get v k hlt]
      obtain ⟨l1, l2⟩ := stR_len ((bs v).take k)
      rw [List.length_take] at l1 l2
      have hnum := stR_num ((bs v).take k)
      obtain ⟨⟨init, last⟩, hsti⟩ : ∃ st, stR ((bs v).take k) = st := ⟨_, rfl⟩
      rw [hsti] at hst hrow l1 l2 hnum
      clear hsti
      have hrow : Hid (PtRow w.heap.size wr g m c init last) := hrow
      have hm := hrow.out.1
      obtain ⟨hBg, hgw, hmc, hcm, hfz, _⟩ := hrow.out.cells
      obtain ⟨q0, q1, q2⟩ := hrow.out.last
      obtain ⟨f0, f2⟩ := hfz m (by omega)
      have hbs := hbel.out.size
      unfold maxLen at hcm
      simp only at l1 l2 hnum
      have hm5 : m ≤ 100000 := by omega
      clear hfz hm
      cases hsep : sep8 v[k] with
      | true =>
        have hs1 := stepR_sep (init, last) v[k] hsep
        rw [hs1] at hst
        have hv : (v[k].toNat : Int) = 46 ∨ (v[k].toNat : Int) = 45 := by
          unfold sep8 sepI at hsep
          simpa using hsep
        have HOA := Lib.hid (hrow.out.2.alloc (.cells #[.string ⟨#[]⟩, .bool (v[k].toNat == 45), .bool false] 71))
        have HNEWS := Lib.hid (cells_three_new wr (.string ⟨#[]⟩) (.bool (v[k].toNat == 45)) (.bool false) 71)
        have HST := Lib.hid hst
        have HRM := Lib.hid hrow.out.1
        clear hst hs1 hsep hnum
        rcases hv with hv | hv
        · have hvn : (v[k].toNat == 45) = false := by rw [beq_eq_false_iff_ne]; omega
          rw [hvn] at HOA HNEWS HST
          clear hvn
          go_wp2_with (at_builtin; go_must (refine wpList_append_own_at _ rfl _ _ 67 rfl w.heap.size 71 i0 _ 3 24 Tryd.underlying67 hi hz0 hz1 hz2 rfl (by decide) _ (m + 1) (ptCells (init ++ [last])) rfl HOA.out ⟨wr.heap.size, 0, none⟩ 1 1 [.string ⟨#[]⟩, .bool false, .bool false] rfl rfl HNEWS.out (three_oneCell _ _ _) (by unfold maxLen; omega) (by omega) (by simp; omega) ?_); intro v' w5 hown5 hgrow5 _ _)
          have hbel5 := (hbel.out.alloc hbs _).grown hgrow5 (by simp; omega) (fun q hq => (HOA.out.lt q hq).1)
          obtain ⟨g5, c5, rfl, row5⟩ := PtRow.grown (last := last) (p := ⟨[], false, false⟩) HRM.out hown5
          have ROW5 : Hid (PtRow w.heap.size w5 g5 (m + 1) c5 (stR ((bs v).take (k + 1))).1 (stR ((bs v).take (k + 1))).2) := Lib.hid (by rw [HST.out]; exact row5)
          have BEL5 := Lib.hid hbel5
          clear hown5 hgrow5 row5 hbel5 HOA HNEWS HST hrow hbel
          go_wp2_with fail
          go_roundw
          case rel => exact ⟨k + 1, g5, m + 1, c5, by omega, rfl, by go_num, ROW5, BEL5⟩
          case measure => simp [intOf]; omega
        · have hvn : (v[k].toNat == 45) = true := by rw [beq_iff_eq]; omega
          rw [hvn] at HOA HNEWS HST
          clear hvn
          go_wp2_with (at_builtin; go_must (refine wpList_append_own_at _ rfl _ _ 67 rfl w.heap.size 71 i0 _ 3 24 Tryd.underlying67 hi hz0 hz1 hz2 rfl (by decide) _ (m + 1) (ptCells (init ++ [last])) rfl HOA.out ⟨wr.heap.size, 0, none⟩ 1 1 [.string ⟨#[]⟩, .bool true, .bool false] rfl rfl HNEWS.out (three_oneCell _ _ _) (by unfold maxLen; omega) (by omega) (by simp; omega) ?_); intro v' w5 hown5 hgrow5 _ _)
          have hbel5 := (hbel.out.alloc hbs _).grown hgrow5 (by simp; omega) (fun q hq => (HOA.out.lt q hq).1)
          obtain ⟨g5, c5, rfl, row5⟩ := PtRow.grown (last := last) (p := ⟨[], true, false⟩) HRM.out hown5
          have ROW5 : Hid (PtRow w.heap.size w5 g5 (m + 1) c5 (stR ((bs v).take (k + 1))).1 (stR ((bs v).take (k + 1))).2) := Lib.hid (by rw [HST.out]; exact row5)
          have BEL5 := Lib.hid hbel5
          clear hown5 hgrow5 row5 hbel5 HOA HNEWS HST hrow hbel
          go_wp2_with fail
          go_roundw
          case rel => exact ⟨k + 1, g5, m + 1, c5, by omega, rfl, by go_num, ROW5, BEL5⟩
          case measure => simp [intOf]; omega
      | false =>
        have h46 : ((v[k].toNat : Int) == 46) = false := by unfold sep8 sepI at hsep; simp only [Bool.or_eq_false_iff] at hsep; exact hsep.1
        have h45 : ((v[k].toNat : Int) == 45) = false := by unfold sep8 sepI at hsep; simp only [Bool.or_eq_false_iff] at hsep; exact hsep.2
        obtain ⟨S, hS⟩ : ∃ S, tx last.s = S := ⟨_, rfl⟩
        have hSz : S.size ≤ 100000 := by rw [← hS, tx_size]; omega
        have hcat : S ++ v.extract k (k + 1) = tx (last.s ++ [v[k]]) := by rw [← hS, bs_one' v k hlt, txA]
        have hz1' : (v.extract k (k + 1)).size = 1 := by rw [bs_one' v k hlt]; rfl
        rw [hS] at q0
        by_cases hemp : last.s = []
        · have he : S.toList = [] := by rw [← hS, toList_bs, bs_tx]; exact hemp
          have hs1 := stepR_on (init, last) v[k] hsep (.inl hemp)
          rw [hs1] at hst
          have ROW5 : Hid (∀ wx : World, wx.heap = wr.heap → PtRow w.heap.size (wx.setCell ⟨g, m * 3, none⟩ (.string (tx (last.s ++ [v[k]])))) g m c (stR ((bs v).take (k + 1))).1 (stR ((bs v).take (k + 1))).2) := Lib.hid fun wx hx => by
            rw [hst]
            exact (hrow.out.heap hx).set 0 _ rfl
          clear hst hs1 hsep hnum hS hemp q1 q2
          go_wp2_with fail
          go_quiet (fail)
          go_wp2_with fail
          go_region
          all_goals go_wp2_with fail
          all_goals go_roundw
          all_goals first
            | exact ⟨k + 1, g, m, c, by omega, rfl, by go_num, Lib.hid (ROW5.out _ rfl), Lib.hid ((below_drewN hbel.out _).setCell hBg _)⟩
            | (simp [intOf]; omega)
        · have hpos : 0 < S.size := by
            rw [← hS, tx_size]
            cases h : last.s with
            | nil => exact absurd h hemp
            | cons => simp
          have hne : ¬ S.toList = [] := toList_ne_of S hpos
          have hne2 : S.toList.isEmpty = false := by simpa using hne
          obtain ⟨z, hz⟩ : ∃ z, S.size = z + 1 := ⟨S.size - 1, by omega⟩
          have hzl : z < S.size := by omega
          have hwz : IntKind.i64.wrap (z : Int) = z := by rw [IntWalk.i64_in _ (by omega)]
          have hwz2 : IntKind.i64.wrap ((z : Int) + 1 - 1) = z := by rw [IntWalk.i64_in _ (by omega)]; omega
          have hwz3 : IntKind.i64.wrap ((S.size : Int) - 1) = z := by rw [IntWalk.i64_in _ (by omega)]; omega
          have hlastd : dig8 (last.s.getLastD 0) = digitI S[z].toNat := by
            have h1 : last.s = bs S := by rw [← hS, bs_tx]
            have h2 := getLastD_get S hpos
            have h3 : S.size - 1 = z := by omega
            rw [h1, h2]
            simp only [h3]
            rfl
          clear hz hwz2
          have hzi : (z : Int) < (S.size : Int) := by omega
          obtain ⟨d1, h1⟩ : ∃ d, digitI S[z].toNat = d := ⟨_, rfl⟩
          obtain ⟨d2, h2⟩ : ∃ d, digitI v[k].toNat = d := ⟨_, rfl⟩
          have h2' : dig8 v[k] = d2 := h2
          rw [h1] at hlastd
          by_cases hdd : d1 = d2
          · have hs1 := stepR_on (init, last) v[k] hsep (.inr (by show dig8 (last.s.getLastD 0) = _; rw [hlastd, h2', hdd]))
            rw [hs1] at hst
            have ROW5 : Hid (∀ wx : World, wx.heap = wr.heap → PtRow w.heap.size (wx.setCell ⟨g, m * 3, none⟩ (.string (tx (last.s ++ [v[k]])))) g m c (stR ((bs v).take (k + 1))).1 (stR ((bs v).take (k + 1))).2) := Lib.hid fun wx hx => by
              rw [hst]
              exact (hrow.out.heap hx).set 0 _ rfl
            clear hst hs1 hsep hnum hS hemp q1 q2 hlastd h2' hpos
            go_wp2_with fail
            go_quiet (first
              | (go_at_call 21; exact Calls.quiet_of_same ((refDigit_c _ _).mono fun _ _ h => ⟨by rw [h.1, h1], h.2.symm⟩))
              | (go_at_call 21; exact Calls.quiet_of_same ((refDigit_c _ _).mono fun _ _ h => ⟨by rw [h.1, h2], h.2.symm⟩)))
            go_wp2_with fail
            go_region
            all_goals go_wp2_with fail
            all_goals go_roundw
            all_goals first
              | exact ⟨k + 1, g, m, c, by omega, rfl, by go_num, Lib.hid (ROW5.out _ rfl), Lib.hid ((below_drewN hbel.out _).setCell hBg _)⟩
              | (simp [intOf]; omega)
          · have hs1 := stepR_new (init, last) v[k] hsep hemp (by show ¬ dig8 (last.s.getLastD 0) = _; rw [hlastd, h2']; exact hdd)
            rw [hs1, h2'] at hst
            have hdb : (d1 == d2) = false := by rw [beq_eq_false_iff_ne]; exact hdd
            have hrow2 : ∀ wx : World, wx.heap = wr.heap → PtRow w.heap.size (wx.setCell ⟨g, m * 3 + 2, none⟩ (.bool d2)) g m c init ⟨last.s, last.dash, d2⟩ := fun wx hx => (hrow.out.heap hx).set 2 _ rfl
            obtain ⟨last2, hl2⟩ : ∃ q : Pt, (⟨last.s, last.dash, d2⟩ : Pt) = q := ⟨_, rfl⟩
            rw [hl2] at hrow2
            have hst2 : stR ((bs v).take (k + 1)) = (init ++ [last2], ⟨[v[k]], true, false⟩) := by rw [hst, ← hl2]
            have HR2 := Lib.hid hrow2
            have HST := Lib.hid hst2
            clear hl2 hst2
            have HRM := Lib.hid hrow.out.1
            have hcat2 : tx [] ++ v.extract k (k + 1) = tx [v[k]] := by rw [bs_one' v k hlt, txA]; rfl
            have hzz : (tx []).size = 0 := rfl
            clear hst hs1 hsep hnum hS hemp hlastd h2' hpos hrow2
            go_wp2_with fail
            go_quiet (first
              | (go_at_call 21; exact Calls.quiet_of_same ((refDigit_c _ _).mono fun _ _ h => ⟨by rw [h.1, h1], h.2.symm⟩))
              | (go_at_call 21; exact Calls.quiet_of_same ((refDigit_c _ _).mono fun _ _ h => ⟨by rw [h.1, h2], h.2.symm⟩)))
            have HOA := Lib.hid ((HR2.out (wr.drewN nq) rfl).2.alloc (.cells #[.string ⟨#[]⟩, .bool true, .bool false] 71))
            have hnews := cells_three_new ((wr.drewN nq).setCell ⟨g, m * 3 + 2, none⟩ (.bool d2)) (.string ⟨#[]⟩) (.bool true) (.bool false) 71
            have hsz2 : ((wr.drewN nq).setCell ⟨g, m * 3 + 2, none⟩ (.bool d2)).heap.size = wr.heap.size := by simp [World.setCell]
            rw [hsz2] at hnews
            have HNEWS := Lib.hid hnews
            clear hnews
            have hb2 : Below w.heap.size w ((wr.drewN nq).setCell ⟨g, m * 3 + 2, none⟩ (.bool d2)) := (below_drewN hbel.out _).setCell hBg _
            have HB2 := Lib.hid hb2
            have hbs2 := hb2.size
            clear hb2 hsz2
            go_wp2_with (first
            | (go_at_call 21; refine (refDigit_c _ _).mono ?_; rintro e w' ⟨rfl, rfl⟩)
            | (at_builtin; go_must (refine wpList_append_own_at _ rfl _ _ 67 rfl w.heap.size 71 i0 _ 3 24 Tryd.underlying67 hi hz0 hz1 hz2 rfl (by decide) _ (m + 1) (ptCells (init ++ [last2])) rfl HOA.out ⟨wr.heap.size, 0, none⟩ 1 1 [.string ⟨#[]⟩, .bool true, .bool false] rfl rfl HNEWS.out (three_oneCell _ _ _) (by unfold maxLen; omega) (by omega) (by simp; omega) ?_); intro v' w5 hown5 hgrow5 _ _; have hx5 := PtRow.grown (last := last2) (p := ⟨[], true, false⟩) HRM.out hown5; obtain ⟨g5, c5, rfl, row5⟩ := hx5))
            have hbel5 := (HB2.out.alloc hbs2 _).grown hgrow5 (by simp; omega) (fun q hq => (HOA.out.lt q hq).1)
            obtain ⟨hBg5, hgw5, hmc5, hcm5, hfz5, _⟩ := row5.cells
            obtain ⟨y0, y1, y2⟩ := row5.last
            obtain ⟨z0, _⟩ := hfz5 (m + 1) (by omega)
            simp only at y0
            unfold maxLen at hcm5
            have ROW6 : Hid (∀ wx : World, wx.heap = w5.heap → PtRow w.heap.size (wx.setCell ⟨g5, (m + 1) * 3, none⟩ (.string (tx [v[k]]))) g5 (m + 1) c5 (stR ((bs v).take (k + 1))).1 (stR ((bs v).take (k + 1))).2) := Lib.hid fun wx hx => by
              rw [HST.out]
              exact (row5.heap hx).set 0 _ rfl
            have BEL5 := Lib.hid hbel5
            clear hown5 hgrow5 row5 hbel5 HOA HNEWS HST HR2 HB2 hrow hbel q0 q1 q2 f0 f2 y1 y2 hfz5
            go_region
            all_goals go_wp2_with fail
            all_goals go_roundw
            all_goals first
              | exact ⟨k + 1, g5, m + 1, c5, by omega, rfl, by go_num, Lib.hid (ROW6.out _ rfl), Lib.hid (BEL5.out.drew.setCell hBg5 _)⟩
              | (simp [intOf]; omega)
    · obtain rfl : k = v.size := by omega
      have hfull : (bs v).take v.size = bs v := List.take_of_length_le (by rw [bs_length]; omega)
      rw [hfull] at hrow
      clear hfull
      go_wp2_with fail
      go_ret
      exact ⟨g, m, c, rfl, hrow, hbel⟩
end Go.Proofs.YthmlggglemnfgaaDoor

namespace Nwl
theorem partsF_size : ∀ (f : Nat) (d : Bool) (l : List UInt8), ∀ p ∈ partsF f d l, p.s.length ≤ l.length
  | 0, _, _, p, hp => by simp [partsF] at hp
  | f + 1, d, l, p, hp => by
    rw [partsF] at hp
    rcases List.mem_cons.1 hp with rfl | hp
    · show (l.take (partN l)).length ≤ _
      rw [List.length_take]; omega
    · split at hp
      · simp at hp
      · have h1 := partsF_size f _ _ p hp
        have h2 := nextL_le (l.drop (partN l))
        rw [List.length_drop] at h2
        omega
theorem clean_cons (w : Wd) (ws : List Wd) : cleanW (w :: ws) = if noN w && !aheadW (cleanW ws) then cleanW ws else w :: cleanW ws := rfl
end Nwl
namespace Go.Proofs.YthmlggglemnfgaaDoor
open Nwl
open Go.RowKit Go.Maps
set_option linter.unusedVariables false

theorem wrow_mono {w : World} {base base' : Nat} {e : TypeId} {size n : Nat} {v : Value} {xs : List Value} (h : w.ownsRow base e size v n xs) (hb : base' ≤ base) : w.ownsRow base' e size v n xs := by
  refine ⟨h.1, ?_⟩
  rcases h.2 with h0 | ⟨g, cap, cur, h1, h2, h3⟩
  · exact .inl h0
  · exact .inr ⟨g, cap, cur, h1, Nat.le_trans hb h2, h3⟩
/-- parts that may be read -/
def PtR (w : World) (g : Nat) (ps : List Pt) : Prop := g < w.heap.size ∧ ∀ j (hj : j < ps.length), w.cell? ⟨g, j * 3, none⟩ = some (.string (tx ps[j].s)) ∧ w.cell? ⟨g, j * 3 + 1, none⟩ = some (.bool ps[j].dash) ∧ w.cell? ⟨g, j * 3 + 2, none⟩ = some (.bool ps[j].num)
theorem refLower_b (s : ByteArray) (w : World) (hs : s.size ≤ 100000) :
    Calls Tryd.prog 66 #[.string s] w fun e w' => e = .returned (.string (lowerB s)) ∧ Below w.heap.size w w' := refLower_c s w (by omega)

theorem new_below' (w : World) (o : Obj) : Below w.heap.size w (w.alloc o) := (Below.refl _ _).alloc (Nat.le_refl _) _
/-- what the document's Split answers -/
def RSplitPost (F : List Wd) (n : Nat) (w : World) (e : Ending) (w' : World) : Prop := ∃ A c, e = .returned (.slice A n c) ∧ Hid (WdR w'.heap.size w' A n F) ∧ Hid (Below w.heap.size w w')

set_option maxRecDepth 100000 in
set_option maxHeartbeats 4000000 in
theorem refsplit_c (v : ByteArray) (w : World) (hs : v.size ≤ 100000) (F : List Wd) (hF : splitW (bs v) = F) (nF : Nat) (hnF : F.length = nF) :
    Calls Tryd.prog 53 #[.string v] w (RSplitPost F nF w) := by
  have hL : (lowerB v).size = v.size := by rw [← bs_length, lowerB, bs_tx, lowerL, List.length_map, bs_length]
  have hF2 : wordsL (bs (lowerB v)) = F := by rw [lowerB, bs_tx]; exact hF
  have hLs : (lowerB v).size ≤ 100000 := by omega
  have HLow := Lib.hid (fun W => refLower_b v W hs)
  clear hF hL
  generalize lowerB v = L at *
  have hps := stR_parts (bs L)
  have hpl : ∀ p ∈ partsL (bs L), p.s.length ≤ 100000 := by
    intro p hp
    have := partsF_size _ _ _ p hp
    rw [bs_length] at this
    omega
  have hpn : (partsL (bs L)).length ≤ 100001 := by
    have := partsF_len ((bs L).length + 1) false (bs L)
    rw [bs_length] at this
    unfold partsL partsD
    rw [bs_length]
    omega
  unfold wordsL at hF2
  obtain ⟨ps, hpse⟩ : ∃ ps, partsL (bs L) = ps := ⟨_, rfl⟩
  rw [hpse] at hps hpl hpn hF2
  have HPS := Lib.hid hps
  have HPL := Lib.hid hpl
  have HF2 := Lib.hid hF2
  have HNF := Lib.hid hnF
  clear hpse hps hpl hF2 hnF
  obtain ⟨i0, hi, hz0, hz1, hz2⟩ := info_parts info_wd
  go_enter Tryd.func53, Tryd.ntmps53
  go_wp2_with fail
  refine (HLow.out _).mono ?_
  rintro e w1 ⟨rfl, hb1⟩
  go_wp2_with fail
  refine (refparts_c L _ hLs).mono ?_
  rintro e w2 ⟨g, m, c, rfl, hrow, hb2⟩
  have hpn2 : m + 1 = ps.length := by
    have h1 := congrArg List.length HPS.out
    rw [List.length_append, ← hrow.out.1] at h1
    exact h1
  have PR : Hid (PtR w2 g ps) := Lib.hid (by
    obtain ⟨_, hgw, _, _, _, hc⟩ := hrow.out.cells
    refine ⟨hgw, ?_⟩
    rw [← HPS.out]
    exact hc)
  obtain ⟨_, _, hmc, hcm, _, _⟩ := hrow.out.cells
  unfold maxLen at hcm
  have B2 := Lib.hid (hb1.trans (hb2.out.mono hb1.size))
  have HP2 := Lib.hid hpn2
  have HPN := Lib.hid hpn
  have hm5 : m ≤ 100000 := by omega
  clear hrow hb2 hb1 HLow HPS hpn2 hpn
  go_wp2_with fail
  go_loopw [4, 5] (fun lv iv wr => ∃ (k n c2 : Nat) (A : Option Addr) (i : Int), i = (k : Int) - 1 ∧ k ≤ m + 1 ∧ lv = .slice A n c2 ∧ iv = .int .i64 i ∧ Hid (WdRow w2.heap.size wr A n c2 (cleanW ((ps.drop k).map wordP))) ∧ Hid (Below w2.heap.size w2 wr)) (fun _ iv _ => (intOf iv + 1).toNat)
  case atStart => exact ⟨m + 1, 0, 0, none, _, by omega, Nat.le_refl _, rfl, rfl, Lib.hid (by rw [List.drop_of_length_le (by have := HP2.out; omega)]; exact WdRow.nil _ _), Lib.hid (Below.refl _ _)⟩
  case round =>
    obtain ⟨k, n, c2, A, i, hik, hk, rfl, rfl, hrow, hbel⟩ := hrel
    rcases Nat.eq_zero_or_pos k with h0 | h0
    · subst h0
      have hneg : i < 0 := by omega
      have hneg2 : ¬ (0 : Int) ≤ i := by omega
      clear hik
      have hfin : Hid (WdR wr.heap.size wr A n F ∧ n = nF) := Lib.hid (by
        have h1 := hrow.out
        rw [List.drop_zero, HF2.out] at h1
        exact ⟨h1.r, by rw [h1.1, HNF.out]⟩)
      have hB := Lib.hid (B2.out.trans (hbel.out.mono B2.out.size))
      clear hrow hbel PR
      go_wp2_with fail
      go_ret
      obtain ⟨h1, rfl⟩ := hfin.out
      exact ⟨A, c2, rfl, Lib.hid h1, hB⟩
    · obtain ⟨j, rfl⟩ : ∃ j, k = j + 1 := ⟨k - 1, by omega⟩
      obtain rfl : i = (j : Int) := by omega
      have hjp : j < ps.length := by have := HP2.out; omega
      obtain ⟨q0, q1, q2⟩ := PR.out.2 j hjp
      have hgw := PR.out.1
      have hsz := HPL.out _ (List.getElem_mem hjp)
      have hdrop : ps.drop j = ps[j] :: ps.drop (j + 1) := List.drop_eq_getElem_cons hjp
      obtain ⟨p, hp⟩ : ∃ p, ps[j] = p := ⟨_, rfl⟩
      rw [hp] at q0 q1 q2 hsz hdrop
      clear hp
      have r0 : wr.cell? ⟨g, j * 3, none⟩ = some (.string (tx p.s)) := (hbel.out.cell (p := ⟨g, j * 3, none⟩) hgw).trans q0
      have r1 : wr.cell? ⟨g, j * 3 + 1, none⟩ = some (.bool p.dash) := (hbel.out.cell (p := ⟨g, j * 3 + 1, none⟩) hgw).trans q1
      have r2 : wr.cell? ⟨g, j * 3 + 2, none⟩ = some (.bool p.num) := (hbel.out.cell (p := ⟨g, j * 3 + 2, none⟩) hgw).trans q2
      obtain ⟨acc, hacc⟩ : ∃ acc, cleanW ((ps.drop (j + 1)).map wordP) = acc := ⟨_, rfl⟩
      obtain ⟨r, hr⟩ : ∃ r, wordP p = r := ⟨_, rfl⟩
      have hnext : cleanW ((ps.drop j).map wordP) = if noN r && !aheadW acc then acc else r :: acc := by rw [hdrop, List.map_cons, clean_cons, hacc, hr]
      rw [hacc] at hrow
      have HNX := Lib.hid hnext
      have HW : Hid (wordW (bs (tx p.s)) p.dash p.num = r) := Lib.hid hr
      have hps : (tx p.s).size ≤ maxLen := by rw [tx_size]; unfold maxLen; omega
      have hn5 : n ≤ 100001 := by
        have h1 := hrow.out.1
        rw [← hacc] at h1
        have h2 := cleanW_len ((ps.drop (j + 1)).map wordP)
        rw [List.length_map, List.length_drop] at h2
        have := HPN.out
        omega
      have hj0 : (0 : Int) ≤ (j : Int) := by omega
      have HN5 := Lib.hid hn5
      have HM5 := Lib.hid hm5
      have HCM := Lib.hid hcm
      have hjm : (j : Int) < (m : Int) + 1 := by omega
      have hwj : Go.RowKit.wrap64 ((j : Int) - 1) = (j : Int) - 1 := by unfold Go.RowKit.wrap64; omega
      clear hdrop hnext hr hacc q0 q1 q2 hsz hn5 hm5 hs hLs hcm h0 hik hk hjp hj0 hmc
      go_wp2_with fail
      refine (refword_c (tx p.s) p.dash p.num _ hps r HW.out).mono ?_
      rintro e w3 ⟨rfl, hb3⟩
      have R3 := Lib.hid (hrow.out.below hb3)
      have B3 := Lib.hid (hbel.out.trans (hb3.mono hbel.out.size))
      clear hb3 hrow hbel r0 r1 r2 HW hps
      go_upto_region 7 with fail
      obtain ⟨ah, hah⟩ : ∃ ah, aheadW acc = ah := ⟨_, rfl⟩
      go_cut [7] (fun v7 wx => v7 = .bool ah ∧ wx = w3.alloc (.cells #[.int .i64 (r.k : Nat), .string (tx r.t)] 53))
      case first =>
        have HAH := Lib.hid hah
        have hn := R3.out.1
        rcases R3.out.cells with ⟨rfl, rfl, rfl, rfl⟩ | ⟨g', rfl, _, hg', _, _, hc⟩
        · obtain rfl : ah = false := hah.symm
          clear hah hn
          go_wp2_with fail
          go_meet
          exact ⟨rfl, rfl⟩
        · cases acc with
          | nil =>
            obtain rfl : n = 0 := hn
            obtain rfl : ah = false := hah.symm
            clear hah hc
            go_wp2_with fail
            go_meet
            exact ⟨rfl, rfl⟩
          | cons x xs =>
            obtain ⟨n', rfl⟩ : ∃ n', n = n' + 1 := ⟨n - 1, by rw [hn]; simp⟩
            have hx0 := (hc 0 (by simp)).1
            simp only [Nat.zero_mul, List.getElem_cons_zero] at hx0
            have hg'' : ¬ g' = w3.heap.size := by omega
            have hn5 := HN5.out
            have hsoft : softW x = ah := hah
            unfold softW at hsoft
            clear hah hn hc HAH
            by_cases h6 : x.k = 6
            · rw [h6] at hsoft hx0
              obtain rfl : ah = true := hsoft.symm
              clear h6 hsoft
              go_wp2_with fail
              go_meet
              exact ⟨rfl, rfl⟩
            · by_cases h10 : x.k = 10
              · rw [h10] at hsoft hx0
                obtain rfl : ah = true := hsoft.symm
                clear h6 h10 hsoft
                go_wp2_with fail
                go_meet
                exact ⟨rfl, rfl⟩
              · have e6 : ((x.k : Int) == 6) = false := by rw [beq_eq_false_iff_ne]; omega
                have e10 : ((x.k : Int) == 10) = false := by rw [beq_eq_false_iff_ne]; omega
                obtain rfl : ah = false := by
                  rw [← hsoft, beq_eq_false_iff_ne.2 h6, beq_eq_false_iff_ne.2 h10]; rfl
                clear h6 h10 hsoft
                generalize x.k = XK at *
                go_wp2_with fail
                go_meet
                exact ⟨rfl, rfl⟩
      case rest =>
      obtain ⟨rfl, rfl⟩ := hcut
      obtain ⟨sk, hsk⟩ : ∃ sk, (noN r && !ah) = sk := ⟨_, rfl⟩
      rw [hah, hsk] at HNX
      clear hah
      go_upto_region 8 with fail
      go_cut [46] (fun v46 wx => v46 = .bool sk ∧ wx = w3.alloc (.cells #[.int .i64 (r.k : Nat), .string (tx r.t)] 53))
      case first =>
        by_cases h6 : r.k = 6
        · have hN : noN r = true := by unfold noN; rw [h6]; rfl
          rw [hN, Bool.true_and] at hsk
          subst hsk
          have H6 := Lib.hid h6
          rw [h6]
          clear hN h6
          cases ah
          all_goals
            go_wp2_with fail
            go_meet
            exact ⟨rfl, by rw [H6.out]; rfl⟩
        · have hN : noN r = false := by unfold noN; rw [beq_eq_false_iff_ne]; exact h6
          rw [hN, Bool.false_and] at hsk
          subst hsk
          have e6 : ((r.k : Int) == 6) = false := by rw [beq_eq_false_iff_ne]; omega
          clear hN h6
          generalize r.k = RK at *
          go_wp2_with fail
          go_meet
          exact ⟨rfl, rfl⟩
      case rest =>
      obtain ⟨rfl, rfl⟩ := hcut
      clear hsk
      have B4 := Lib.hid (B3.out.alloc B3.out.size (.cells #[.int .i64 (r.k : Nat), .string (tx r.t)] 53))
      have R4 := Lib.hid (R3.out.below (new_below' w3 (.cells #[.int .i64 (r.k : Nat), .string (tx r.t)] 53)))
      clear R3
      cases sk with
      | true =>
        have R5 : Hid (WdRow w2.heap.size (w3.alloc (.cells #[.int .i64 (r.k : Nat), .string (tx r.t)] 53)) A n c2 (cleanW ((ps.drop j).map wordP))) := Lib.hid (by rw [HNX.out]; exact R4.out)
        clear R4 HNX
        go_wp2_with fail
        go_roundw
        case rel => exact ⟨j, n, c2, A, _, hwj, by omega, rfl, rfl, R5, B4⟩
        case measure => simp only [intOf]; rw [hwj]; omega
      | false =>
        have hmade := own_made1 (w3.alloc (.cells #[.int .i64 (r.k : Nat), .string (tx r.t)] 53)) 53 [.int .i64 (r.k : Nat), .string (tx r.t)] 2 rfl
        rw [show (w3.alloc (.cells #[.int .i64 (r.k : Nat), .string (tx r.t)] 53)).heap.size = w3.heap.size + 1 by simp] at hmade
        have hws := B3.out.size
        have HOWN := Lib.hid (wrow_mono (base' := w2.heap.size) hmade (by omega))
        clear hmade
        have B5 := Lib.hid (B4.out.alloc B4.out.size (.cells #[.int .i64 (r.k : Nat), .string (tx r.t)] 53))
        have R5 := Lib.hid (R4.out.below (new_below' _ (.cells #[.int .i64 (r.k : Nat), .string (tx r.t)] 53)))
        have HN := Lib.hid R5.out.1
        have hn5 := HN5.out
        clear R4 B4 B3
        rcases R5.out.cells with ⟨rfl, rfl, rfl, rfl⟩ | ⟨g', rfl, hg1, hg', _, _, _⟩
        · have R6 : Hid (WdRow w2.heap.size ((w3.alloc (.cells #[.int .i64 (r.k : Nat), .string (tx r.t)] 53)).alloc (.cells #[.int .i64 (r.k : Nat), .string (tx r.t)] 53)) (some ⟨w3.heap.size + 1, 0, none⟩) 1 1 (cleanW ((ps.drop j).map wordP))) := Lib.hid (by
            rw [HNX.out]
            exact ⟨rfl, HOWN.out⟩)
          go_wp2_with (at_builtin; go_must (refine wpList_append_own_none rfl _ _ 49 rfl w2.heap.size 53 i0 2 Tryd.underlying49 hi _ 1 [.int .i64 (r.k : Nat), .string (tx r.t)] rfl HOWN.out rfl ?_))
          go_roundw
          case rel => exact ⟨j, 1, 1, _, _, hwj, by omega, rfl, rfl, R6, B5⟩
          case measure => simp only [intOf]; rw [hwj]; omega
        · have HSRC : Hid (∀ (q : Nat) (u : Value), (wdCells acc)[q]? = some u → ((w3.alloc (.cells #[.int .i64 (r.k : Nat), .string (tx r.t)] 53)).alloc (.cells #[.int .i64 (r.k : Nat), .string (tx r.t)] 53)).cell? ((⟨g', 0, none⟩ : Addr).add q) = some u) := Lib.hid (fun q u hu => R5.out.2.cells (g := g') rfl q u hu)
          go_wp2_with (at_builtin; go_must (refine wpList_append_own_at _ rfl _ _ 49 rfl w2.heap.size 53 i0 _ 2 24 Tryd.underlying49 hi hz0 hz1 hz2 rfl (by decide) _ 1 [.int .i64 (r.k : Nat), .string (tx r.t)] rfl HOWN.out ⟨g', 0, none⟩ n c2 (wdCells acc) rfl (wdCells_len acc |>.trans (by rw [HN.out])) HSRC.out (wdCells_one acc) (by unfold maxLen; omega) (by omega) (by simp; omega) ?_); intro v' w6 hown6 hgrow6 _ _)
          obtain ⟨A6, c6, rfl⟩ := own_form hown6
          have R6 : Hid (WdRow w2.heap.size w6 A6 (1 + n) c6 (cleanW ((ps.drop j).map wordP))) := Lib.hid (by
            rw [HNX.out]
            refine ⟨?_, hown6⟩
            show 1 + n = (r :: acc).length
            rw [List.length_cons, ← HN.out]
            omega)
          have B6 := Lib.hid (B5.out.grown hgrow6 (by simp; omega) (fun q hq => (HOWN.out.lt q hq).1))
          clear hown6 hgrow6 HOWN HSRC R5 B5
          go_wp2_with fail
          go_roundw
          case rel => exact ⟨j, 1 + n, c6, _, _, hwj, by omega, rfl, rfl, R6, B6⟩
          case measure => simp only [intOf]; rw [hwj]; omega
end Go.Proofs.YthmlggglemnfgaaDoor
