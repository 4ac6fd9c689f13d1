/-
  Plain facts: how much a parsed tree weighs.
-/
import Derived.Test.YtkccockdnjjanaaGreatDoorEqStand
namespace Nwl
open Go (Lib.cut Lib.index Lib.contains Lib.hasPrefix Lib.encodeRune)
def atW (l : List (List UInt8 × List UInt8)) : Nat := (l.map fun a => a.1.length + a.2.length + 1).sum
theorem atW_snoc (l : List (List UInt8 × List UInt8)) (a : List UInt8 × List UInt8) : atW (l ++ [a]) = atW l + (a.1.length + a.2.length + 1) := by
  unfold atW; rw [List.map_append, List.sum_append]; simp
/-- what a token weighs -/
def tokW (t : Tok) : Nat := t.name.length + t.text.length + atW t.attrs
theorem nameP_sum (l : List UInt8) : (nameP l).1.length + (nameP l).2.length = l.length := by
  unfold nameP
  split
  · rfl
  · split
    · rw [← List.length_append, List.takeWhile_append_dropWhile]
    · simp
theorem valueL_w {l v rest : List UInt8} (h : valueL l = some (v, rest)) : v.length + 4 * rest.length + 4 ≤ 4 * l.length := by
  unfold valueL at h
  split at h
  · cases h
  · rename_i c r
    split at h
    · cases hcut : cutL [c] r with
      | none => rw [hcut] at h; cases h
      | some y =>
        obtain ⟨raw, rs⟩ := y
        rw [hcut] at h
        dsimp only at h
        split at h
        · cases h
        · cases he : entL raw with
          | none => rw [he] at h; cases h
          | some z =>
            rw [he] at h
            injection h with h
            injection h with h1 h2
            subst h1 h2
            have h1 := cutL_two hcut
            have h2 := entF_len _ _ _ he
            rw [List.length_cons]
            omega
    · cases h
theorem attrL_w {l rest : List UInt8} {a : List UInt8 × List UInt8} (h : attrL l = some (a, rest)) : a.1.length + a.2.length + 1 + 4 * rest.length ≤ 4 * l.length := by
  unfold attrL at h
  split at h
  · cases h
  · have hs := nameP_sum l
    split at h
    · cases h
    · rename_i c r hsk
      have hk := skipL_le (nameP l).2
      rw [hsk, List.length_cons] at hk
      split at h
      · cases hv : valueL (skipL r) with
        | none => rw [hv] at h; cases h
        | some y =>
          obtain ⟨v, rs⟩ := y
          rw [hv] at h
          injection h with h
          injection h with h1 h2
          subst h1 h2
          have h1 := valueL_w hv
          have h2 := skipL_le r
          dsimp only
          omega
      · cases h
theorem attrsF_w : ∀ (n : Nat) (acc : List (List UInt8 × List UInt8)) (l : List UInt8) (a : List (List UInt8 × List UInt8)) (e : Bool) (rest : List UInt8), attrsF n acc l = some (a, e, rest) → atW a + 4 * rest.length ≤ atW acc + 4 * l.length
  | 0, acc, l, a, e, rest, h => by cases h
  | n + 1, acc, l, a, e, rest, h => by
    have hs := skipL_le l
    unfold attrsF at h
    split at h
    · injection h with h
      injection h with h1 h
      injection h with h2 h3
      subst h1 h3
      rw [List.length_drop]; omega
    · split at h
      · injection h with h
        injection h with h1 h
        injection h with h2 h3
        subst h1 h3
        rw [List.length_drop]; omega
      · split at h
        · cases h
        · cases ha : attrL (skipL l) with
          | none => rw [ha] at h; cases h
          | some y =>
            obtain ⟨b, rs⟩ := y
            rw [ha] at h
            dsimp only at h
            split at h
            · cases h
            · have h1 := attrL_w ha
              have h2 := attrsF_w n _ rs a e rest h
              rw [atW_snoc] at h2
              omega
theorem tokL_w {first : Bool} {l rest : List UInt8} {t : Tok} (h : tokL first l = some (t, rest)) : tokW t + 4 * rest.length ≤ 4 * l.length := by
  have plain : ∀ (k : Nat) (x y : List UInt8) (e : Bool), tokW ⟨k, y, x, [], e⟩ = y.length + x.length := fun k x y e => by unfold tokW atW; simp
  unfold tokL at h
  split at h
  · unfold commentL at h
    cases hc : cutL [45, 45, 62] (l.drop 4) with
    | none => rw [hc] at h; cases h
    | some y =>
      obtain ⟨x, rs⟩ := y
      rw [hc] at h
      dsimp only at h
      have := cutL_two hc
      rw [List.length_drop] at this
      split at h
      · cases h
      · injection h with h
        injection h with h1 h2
        subst h1 h2
        rw [plain, List.length_nil]; omega
  · split at h
    · cases hc : cutL [93, 93, 62] (l.drop 9) with
      | none => rw [hc] at h; cases h
      | some y =>
        obtain ⟨x, rs⟩ := y
        rw [hc] at h
        injection h with h
        injection h with h1 h2
        subst h1 h2
        have := cutL_two hc
        rw [List.length_drop] at this
        rw [plain, List.length_nil]; omega
    · split at h
      · split at h
        · cases hc : cutL [63, 62] (l.drop 2) with
          | none => rw [hc] at h; cases h
          | some y =>
            obtain ⟨x, rs⟩ := y
            rw [hc] at h
            injection h with h
            injection h with h1 h2
            subst h1 h2
            have := cutL_two hc
            rw [List.length_drop] at this
            rw [plain, List.length_nil]; omega
        · cases h
      · split at h
        · unfold closeL at h
          have hs := nameP_sum (l.drop 2)
          rw [List.length_drop] at hs
          split at h
          · cases h
          · split at h
            · injection h with h
              injection h with h1 h2
              subst h1 h2
              have := skipL_le (nameP (l.drop 2)).2
              rw [plain, List.length_nil, List.length_drop]; omega
            · cases h
        · split at h
          · unfold openL at h
            have hs := nameP_sum (l.drop 1)
            rw [List.length_drop] at hs
            split at h
            · cases h
            · cases ha : attrsF ((nameP (l.drop 1)).2.length + 1) [] (nameP (l.drop 1)).2 with
              | none => rw [ha] at h; cases h
              | some y =>
                obtain ⟨a, e, rs⟩ := y
                rw [ha] at h
                injection h with h
                injection h with h1 h2
                subst h1 h2
                have := attrsF_w _ _ _ _ _ _ ha
                have e0 : atW ([] : List (List UInt8 × List UInt8)) = 0 := rfl
                rw [e0] at this
                show (nameP (l.drop 1)).1.length + 0 + atW a + 4 * rs.length ≤ 4 * l.length
                omega
          · unfold textL at h
            cases he : entL (l.takeWhile (· != 60)) with
            | none => rw [he] at h; cases h
            | some x =>
              rw [he] at h
              injection h with h
              injection h with h1 h2
              subst h1 h2
              have h3 := entF_len _ _ _ he
              have h4 : (l.takeWhile (· != 60)).length + (l.dropWhile (· != 60)).length = l.length := by
                rw [← List.length_append, List.takeWhile_append_dropWhile]
              rw [plain, List.length_nil]; omega
theorem splitF_w : ∀ (n : Nat) (first : Bool) (l : List UInt8) (ts : List Tok), splitF n first l = some ts → (ts.map tokW).sum ≤ 4 * l.length
  | _, _, [], ts, h => by
    unfold splitF at h
    injection h with h
    subst h; simp
  | 0, _, c :: r, ts, h => by cases h
  | n + 1, first, c :: r, ts, h => by
    unfold splitF at h
    cases hk : tokL first (c :: r) with
    | none => rw [hk] at h; cases h
    | some y =>
      obtain ⟨t0, rest⟩ := y
      rw [hk] at h
      dsimp only at h
      have h1 := tokL_w hk
      cases hs : splitF n false rest with
      | none => rw [hs] at h; cases h
      | some us =>
        rw [hs] at h
        injection h with h
        subst h
        have h2 := splitF_w n false rest us hs
        rw [List.map_cons, List.sum_cons]
        omega
def tkiW (t : Tki) : Nat := t.name.length + t.text.length + atW t.attrs
/-- what the nodes weigh, so far -/
def BkOk (T : Nat) (g : Gst) : Prop := (∀ x ∈ g.pre, bulkN x ≤ T) ∧ g.run.length ≤ T
theorem bk_settled {T : Nat} {g : Gst} (h : BkOk T g) : ∀ x ∈ g.settled, bulkN x ≤ T := by
  unfold Gst.settled
  split
  · exact h.1
  · intro x hx
    rcases List.mem_append.1 hx with hx | hx
    · exact h.1 x hx
    · rw [List.mem_singleton] at hx
      subst hx
      have := h.2
      unfold bulkN
      simpa using this
theorem grow_bk {T : Nat} {g g' : Gst} {t : Tki} (h : BkOk T g) (hr : g.run.length + tkiW t ≤ T) (e : growG g t = .ok g') : BkOk T g' ∧ g'.run.length ≤ g.run.length + tkiW t := by
  have hset := bk_settled h
  unfold growG at e
  split at e
  · injection e with e; subst e; exact ⟨h, by omega⟩
  · split at e
    · unfold openG at e
      split at e
      · cases e
      · split at e
        · cases e
        · split at e
          · cases e
          · split at e
            · cases e
            · injection e with e
              subst e
              refine ⟨⟨fun x hx => ?_, by show 0 ≤ T; omega⟩, by show 0 ≤ _; omega⟩
              rcases List.mem_append.1 hx with hx | hx
              · exact hset x hx
              · rw [List.mem_singleton] at hx
                subst hx
                unfold tkiW atW at hr
                unfold bulkN
                simp only [List.length_nil]
                omega
    · split at e
      · unfold closeG at e
        split at e
        · cases e
        · split at e
          · injection e with e
            subst e
            exact ⟨⟨hset, by show 0 ≤ T; omega⟩, by show 0 ≤ _; omega⟩
          · cases e
      · split at e
        · unfold textG at e
          have ht : t.text.length ≤ tkiW t := by unfold tkiW; omega
          split at e
          · split at e
            · injection e with e; subst e; exact ⟨h, by omega⟩
            · cases e
          · split at e
            · injection e with e; subst e; exact ⟨h, by omega⟩
            · split at e
              · split at e
                · cases e
                · injection e with e
                  subst e
                  exact ⟨⟨h.1, by show t.text.length ≤ T; omega⟩, by show t.text.length ≤ _; omega⟩
              · injection e with e
                subst e
                refine ⟨⟨h.1, ?_⟩, ?_⟩
                · show (g.run ++ t.text).length ≤ T
                  rw [List.length_append]; omega
                · show (g.run ++ t.text).length ≤ _
                  rw [List.length_append]; omega
        · cases e
theorem tree_bk {T : Nat} : ∀ (ts : List Tki) (g : Gst) (ns : List Nd), BkOk T g → g.Ok → g.run.length + (ts.map tkiW).sum ≤ T → treeG g ts = .ok ns → ∀ x ∈ ns, bulkN x ≤ T
  | [], g, ns, h, hok, _, e => by
    unfold treeG endG at e
    split at e
    · cases e
    · rename_i hh
      injection e with e
      have ho : g.opn = [] := by
        by_cases q : g.opn = []
        · exact q
        · exact absurd (.inr q) hh
      have hr := hok.out ho
      have hm : g.mem = g.pre := by unfold Gst.mem; rw [if_pos hr]
      rw [hm] at e
      subst e
      exact h.1
  | t :: ts, g, ns, h, hok, hs, e => by
    rw [List.map_cons, List.sum_cons] at hs
    unfold treeG at e
    cases hg : growG g t with
    | error n => rw [hg] at e; cases e
    | ok g' =>
      rw [hg] at e
      obtain ⟨h1, h2⟩ := grow_bk h (by omega) hg
      exact tree_bk ts g' ns h1 (growG_ok hok hg) (by omega) e
theorem parse_bk {l : List UInt8} {ns : List Nd} (h : parseX l = .ok ns) : ∀ x ∈ ns, bulkN x ≤ 80000 := by
  unfold parseX at h
  split at h
  · refine tree_bk _ _ ns ⟨(fun x hx => by cases hx), Nat.zero_le _⟩ Gst.none_ok ?_ h
    have hsum : ((splitT l).map tokW).sum ≤ 80000 := by
      unfold splitT
      split
      · simp
      · split
        · cases hs : splitL l with
          | none => simp
          | some ts =>
            have := splitF_w _ _ _ ts hs
            simp only [Option.getD_some]
            omega
        · simp
    have e : ((splitT l).map Tok.up).map tkiW = (splitT l).map tokW := by
      rw [List.map_map]; rfl
    rw [e]
    show 0 + _ ≤ 80000
    omega
  · cases h
theorem small_all {ns : List Nd} {M K : Nat} (h : ∀ x ∈ ns, bulkN x ≤ M) (hK : M ≤ K) : Small ns K := by
  intro i
  unfold nd
  rw [List.getD_eq_getElem?_getD]
  rcases Nat.lt_or_ge i ns.length with hi | hi
  · rw [List.getElem?_eq_getElem hi]
    exact Nat.le_trans (h _ (List.getElem_mem hi)) hK
  · rw [List.getElem?_eq_none hi]
    unfold bulkN
    simp
/-- what is so of each right node -/
theorem right_each {ns : List Nd} (h : rightB ns = true) : ∀ i : Nat, i < ns.length → (i = 0 → parAt ns i = -1 ∧ textB (nd ns i) = false) ∧ (0 < i → ∃ q : Nat, parAt ns i = q ∧ q < i ∧ textB (nd ns q) = false) ∧ (textB (nd ns i) = true → (nd ns i).text ≠ []) ∧ (textB (nd ns i) = false → (nd ns i).text = []) := by
  intro i hi
  have hr : rightTo ns ns.length = true := by
    unfold rightB at h
    rw [Bool.and_eq_true, Bool.and_eq_true] at h
    exact h.2.2
  have hp := right_par hr
  have hn := rightTo_at hr hi
  unfold nodeB at hn
  rw [Bool.and_eq_true] at hn
  refine ⟨fun e => ?_, fun h0 => ?_, fun ht => ?_, fun ht => ?_⟩
  · subst e
    exact first_in (right_le hr (by omega))
  · obtain ⟨k, rfl⟩ : ∃ k, i = k + 1 := ⟨i - 1, by omega⟩
    have h1 := stand_in (i := k) (right_le hr (by omega))
    have hb := innerN_bound (Par.le hp (by omega : k + 1 ≤ ns.length))
    have h2 := chain_le hp hb.1 (by omega) h1
    have h3 := open_elem k (right_le hr (by omega)) _ h1
    refine ⟨(parAt ns ((k + 1 : Nat) : Int)).toNat, by omega, by omega, h3⟩
  · have hm := hn.1
    unfold mayBeB at hm
    rw [ht, if_pos rfl, Bool.and_eq_true, decide_eq_true_eq] at hm
    exact hm.1
  · have hm := hn.1
    unfold mayBeB at hm
    rw [ht, if_neg (by decide), Bool.and_eq_true, decide_eq_true_eq] at hm
    exact hm.1
theorem rightB_few {ns : List Nd} (h : rightB ns = true) : ns ≠ [] ∧ ns.length ≤ 2000 := by
  unfold rightB at h
  rw [Bool.and_eq_true, Bool.and_eq_true, decide_eq_true_iff, decide_eq_true_iff] at h
  exact ⟨h.1, h.2.1⟩
theorem parse_ne {l : List UInt8} {n : Int} (h : parseX l = .error n) : n ≠ 0 := by
  have key : ∀ (ts : List Tki) (g : Gst), treeG g ts = .error n → n ≠ 0 := by
    intro ts
    induction ts with
    | nil =>
      intro g e
      simp only [treeG, endG] at e
      split at e
      · injection e with e; omega
      · cases e
    | cons t ts ih =>
      intro g e
      simp only [treeG] at e
      split at e
      · rename_i m hx
        injection e with e
        subst e
        exact growG_err hx
      · rename_i g' hx
        exact ih g' e
  unfold parseX at h
  split at h
  · exact key _ _ h
  · rename_i hne
    injection h with h
    subst h
    exact hne
end Nwl
