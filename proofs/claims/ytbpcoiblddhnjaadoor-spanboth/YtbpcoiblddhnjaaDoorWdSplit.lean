/-
  Contracts of words.withoutNothing and words.Split: rows of words in memory.
-/
import Derived.Test.YtbpcoiblddhnjaaDoorWdWord
import Derived.Test.YtbpcoiblddhnjaaDoorChLower
namespace Nwl
theorem wn_take {l : List Wd} {m : Nat} (hm : m ≤ l.length) (h : ∀ j (hj : j < l.length), m ≤ j → noN l[j] = true) : wn (l.take m) = wn l := by
  unfold wn
  congr 1
  conv => rhs; rw [← List.take_append_drop m l, List.reverse_append]
  rw [List.dropWhile_append_of_pos]
  intro a ha
  rw [List.mem_reverse] at ha
  obtain ⟨i, hi, rfl⟩ := List.mem_iff_getElem.1 ha
  rw [List.length_drop] at hi
  rw [List.getElem_drop]
  exact h _ (by omega) (by omega)
theorem wn_stop {l : List Wd} {k : Nat} (hk : k < l.length) (h : noN l[k] = false) : wn (l.take (k + 1)) = l.take (k + 1) := by
  rw [← List.take_append_getElem hk, wn_yes _ _ h]
theorem wn_len (l : List Wd) : (wn l).length ≤ l.length := by
  unfold wn
  rw [List.length_reverse]
  refine Nat.le_trans (List.dropWhile_sublist _).length_le ?_
  rw [List.length_reverse]
  exact Nat.le_refl _
theorem wn_pre (l : List Wd) : wn l = l.take (wn l).length := by
  have h := List.dropWhile_suffix noN (l := l.reverse)
  obtain ⟨t, ht⟩ := h
  have h2 : l = wn l ++ t.reverse := by
    have := congrArg List.reverse ht
    rw [List.reverse_append, List.reverse_reverse] at this
    exact this.symm
  have h3 := congrArg (List.take (wn l).length) h2
  rw [h3, List.take_left]
end Nwl
namespace Go.Proofs.YtbpcoiblddhnjaaDoor
open Nwl
open Go.RowKit Go.Maps
set_option linter.unusedVariables false

/-- words as cells -/
def wdCells (l : List Wd) : List Value := l.flatMap fun a => [.int .i64 (a.k : Nat), .string (tx a.t)]
theorem wdCells_len : ∀ (l : List Wd), (wdCells l).length = l.length * 2
  | [] => rfl
  | a :: l => by
    have := wdCells_len l
    show ((Value.int .i64 (a.k : Nat)) :: (Value.string (tx a.t)) :: wdCells l).length = _
    rw [List.length_cons, List.length_cons, this, List.length_cons]
    omega
theorem wdCells_app (a b : List Wd) : wdCells (a ++ b) = wdCells a ++ wdCells b := by simp [wdCells]
theorem wdCells_get : ∀ (l : List Wd) (j : Nat) (h : j < l.length), (wdCells l)[j * 2]? = some (.int .i64 (l[j].k : Nat)) ∧ (wdCells l)[j * 2 + 1]? = some (.string (tx l[j].t))
  | a :: l, 0, h => ⟨rfl, rfl⟩
  | a :: l, j + 1, h => by
    have := wdCells_get l j (by simpa using h)
    have e : wdCells (a :: l) = .int .i64 (a.k : Nat) :: .string (tx a.t) :: wdCells l := rfl
    rw [e]
    have e1 : (j + 1) * 2 = j * 2 + 1 + 1 := by omega
    rw [e1]
    simpa using this
theorem wdCells_take (l : List Wd) (m : Nat) : wdCells (l.take m) = (wdCells l).take (m * 2) := by
  rcases Nat.lt_or_ge l.length m with h | h
  · rw [List.take_of_length_le (by omega), List.take_of_length_le (by rw [wdCells_len]; omega)]
  · have e := wdCells_app (l.take m) (l.drop m)
    rw [List.take_append_drop] at e
    rw [e, List.take_left' (by rw [wdCells_len, List.length_take]; omega)]
theorem wdCells_one : ∀ (l : List Wd), ∀ u ∈ wdCells l, u.oneCell' = true
  | [], u, h => by simp [wdCells] at h
  | a :: l, u, h => by
    have e : wdCells (a :: l) = .int .i64 (a.k : Nat) :: .string (tx a.t) :: wdCells l := rfl
    rw [e] at h
    simp at h
    rcases h with rfl | rfl | h
    · rfl
    · rfl
    · exact wdCells_one l u h

/-- a row of words that was made from block B on -/
def WdRow (B : Nat) (w : World) (A : Option Addr) (n c : Nat) (l : List Wd) : Prop := n = l.length ∧ w.ownsRow B 87 2 (.slice A n c) n (wdCells l)
theorem WdRow.nil (B : Nat) (w : World) : WdRow B w none 0 0 [] := ⟨rfl, World.ownsRow_nil _ _ _ _⟩
theorem WdRow.cells {B : Nat} {w : World} {A : Option Addr} {n c : Nat} {l : List Wd} (h : WdRow B w A n c l) : A = none ∧ n = 0 ∧ l = [] ∧ c = 0 ∨ ∃ g, A = some ⟨g, 0, none⟩ ∧ B ≤ g ∧ g < w.heap.size ∧ n ≤ c ∧ c ≤ maxLen ∧ ∀ j (hj : j < l.length), w.cell? ⟨g, j * 2, none⟩ = some (.int .i64 (l[j].k : Nat)) ∧ w.cell? ⟨g, j * 2 + 1, none⟩ = some (.string (tx l[j].t)) := by
  obtain ⟨hn, h⟩ := h
  have h0 := h
  rcases h.2 with ⟨hv, h1⟩ | ⟨g, cap, cur, hv, hg, hh, hc, hm, hs, ht⟩
  · injection hv with e1 e2 e3
    exact .inl ⟨e1, h1, List.eq_nil_of_length_eq_zero (by omega), e3⟩
  · injection hv with e1 e2 e3
    subst e1 e3
    refine .inr ⟨g, rfl, hg, (Array.getElem?_eq_some_iff.1 hh).1, hc, hm, fun j hj => ?_⟩
    obtain ⟨q1, q2⟩ := wdCells_get l j hj
    have r1 := h0.cells (g := g) rfl _ _ q1
    have r2 := h0.cells (g := g) rfl _ _ q2
    rw [addr_add0'] at r1 r2
    exact ⟨r1, r2⟩
theorem WdRow.cut {B : Nat} {w : World} {g n c : Nat} {l : List Wd} (h : WdRow B w (some ⟨g, 0, none⟩) n c l) (m : Nat) (hm : m ≤ l.length) : WdRow B w (some ⟨g, 0, none⟩) m c (l.take m) := by
  obtain ⟨hn, h⟩ := h
  have hl : (l.take m).length = m := by rw [List.length_take]; omega
  refine ⟨hl.symm, by rw [wdCells_len, hl], ?_⟩
  rcases h.2 with ⟨hv, h1⟩ | ⟨g', cap, cur, hv, hg, hh, hc, hx, hs, ht⟩
  · cases hv
  · injection hv with e1 e2 e3
    injection e1 with e1
    injection e1 with e1
    subst e1 e3
    refine .inr ⟨g, c, cur, rfl, hg, hh, by omega, hx, hs, ?_⟩
    rw [wdCells_take, ← ht, List.take_take, Nat.min_eq_left (by omega)]

set_option maxRecDepth 100000 in
set_option maxHeartbeats 800000 in
theorem withoutNothing_c (B : Nat) (A : Option Addr) (n c : Nat) (l : List Wd) (w : World) (h : WdRow B w A n c l) (m : Nat) (hm : (wn l).length = m) :
    Calls Tryd.prog 83 #[.slice A n c] w fun e w' => e = .returned (.slice A m c) ∧ w = w' := by
  have HM := Lib.hid hm
  rcases h.cells with ⟨rfl, rfl, rfl, rfl⟩ | ⟨g, rfl, _, hg, hnc, hcm, hcells⟩
  · obtain rfl : m = 0 := by rw [← hm]; rfl
    clear hm h
    go_enter Tryd.func83, Tryd.ntmps83
    go_wp2_with fail
    refine wp_scope_again 0 (fun a' w' => False) (fun _ _ => 0) rfl ?_ ?_
    · rintro a' w' hf
      exact hf.elim
    · intro _
      go_wp2_with fail
      go_step3
      go_wp2_with fail
      simp only [Exit.jump]
      go_ret
      exact ⟨rfl, rfl⟩
  · have hn := h.1
    have HC := Lib.hid hcells
    have HN := Lib.hid hn
    clear hcells hm h hn
    unfold maxLen at hcm
    go_enter Tryd.func83, Tryd.ntmps83
    go_wp2_with fail
    refine wp_scope_again 0 (fun a' w' => w = w' ∧ ∃ (i : Int) (k : Nat) (u4 u5 u6 u7 u8 u9 u10 u11 u12 u13 u14 u15 u16 u17 u18 u19 u20 u21 : Value), a' = { tmps := #[.slice (some ⟨g, 0, none⟩) n c, undef, .slice none 0 0, .int .i64 i, u4, u5, u6, u7, u8, u9, u10, u11, u12, u13, u14, u15, u16, u17, u18, u19, u20, u21], defers := [] } ∧ i = k ∧ k ≤ n ∧ Hid (∀ j (hj : j < l.length), k ≤ j → noN l[j] = true)) (fun a' _ => (intOf (a'.tmps.getD 3 undef)).toNat) rfl ?_ ?_
    · rintro a' w' ⟨rfl, i, k, u4, u5, u6, u7, u8, u9, u10, u11, u12, u13, u14, u15, u16, u17, u18, u19, u20, u21, rfl, hik, hk, hinv⟩
      have hfin : Hid (wn (l.take k) = wn l) := Lib.hid (wn_take (by have := HN.out; omega) hinv.out)
      rcases Nat.eq_zero_or_pos k with h0 | h0
      · subst h0
        obtain rfl : i = 0 := hik
        have hm0 : Hid (m = 0) := Lib.hid (by rw [← HM.out, ← hfin.out]; rfl)
        go_wp2_with fail
        simp only [Exit.jump]
        go_ret
        obtain rfl := hm0.out
        exact ⟨rfl, rfl⟩
      · obtain ⟨j, rfl⟩ : ∃ j, k = j + 1 := ⟨k - 1, by omega⟩
        obtain rfl : i = (j : Int) + 1 := hik
        have hjl : j < l.length := by have := HN.out; omega
        have hc1 := (HC.out j hjl).1
        cases hq : noN l[j] with
        | true =>
          have hk6 : ((l[j].k : Int) == 6) = true := by
            unfold noN at hq
            rw [beq_iff_eq] at hq ⊢
            omega
          have hinv2 : Hid (∀ q (hj : q < l.length), j ≤ q → noN l[q] = true) := Lib.hid fun q hq1 hq2 => by
            by_cases e : q = j
            · subst e; exact hq
            · exact hinv.out q hq1 (by omega)
          clear hq hinv hfin
          generalize l[j].k = K at *
          go_wp2_with fail
          go_step3
          refine ⟨rfl, ⟨rfl, _, j, _, _, _, _, _, _, _, _, _, _, _, _, _, _, _, _, _, _, rfl, rfl, by omega, hinv2⟩, ?_⟩
          simp [intOf]
        | false =>
          have hk6 : ((l[j].k : Int) == 6) = false := by
            unfold noN at hq
            rw [beq_eq_false_iff_ne] at hq ⊢
            omega
          have hm0 : Hid (m = j + 1) := Lib.hid (by rw [← HM.out, ← hfin.out, wn_stop hjl hq, List.length_take]; omega)
          clear hq hinv hfin
          generalize l[j].k = K at *
          go_wp2_with fail
          simp only [Exit.jump]
          go_ret
          obtain rfl := hm0.out
          exact ⟨rfl, rfl⟩
    · intro hpass
      go_wp2_with fail
      go_step3
      rename_i hK
      exact hK _ _ (hpass.out _ _ ⟨rfl, _, n, _, _, _, _, _, _, _, _, _, _, _, _, _, _, _, _, _, _, rfl, rfl, Nat.le_refl _, fun q hq1 hq2 => by have := HN.out; omega⟩)
end Go.Proofs.YtbpcoiblddhnjaaDoor
