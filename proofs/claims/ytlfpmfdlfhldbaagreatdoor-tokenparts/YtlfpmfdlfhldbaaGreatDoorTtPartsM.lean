/-
  Plain facts: a text that is told is told so, too, if a "<" stands behind it.
-/
import Derived.Test.YtlfpmfdlfhldbaaGreatDoorTtMath
namespace Nwl
open Go
theorem tw_ext {p : UInt8 → Bool} : ∀ (l X : List UInt8), l.dropWhile p ≠ [] → (l ++ X).takeWhile p = l.takeWhile p ∧ (l ++ X).dropWhile p = l.dropWhile p ++ X
  | [], X, h => absurd rfl h
  | c :: r, X, h => by
    rw [List.cons_append, List.takeWhile_cons, List.dropWhile_cons, List.takeWhile_cons, List.dropWhile_cons]
    cases hc : p c with
    | false => exact ⟨rfl, rfl⟩
    | true =>
      rw [List.dropWhile_cons, hc] at h
      obtain ⟨h1, h2⟩ := tw_ext r X h
      simp only [if_true]
      exact ⟨by rw [h1], h2⟩
theorem skipL_ext {l X : List UInt8} (h : skipL l ≠ []) : skipL (l ++ X) = skipL l ++ X := (tw_ext l X h).2
theorem nameP_ext {l X : List UInt8} (h1 : (nameP l).1 ≠ []) (h2 : (nameP l).2 ≠ []) : nameP (l ++ X) = ((nameP l).1, (nameP l).2 ++ X) := by
  cases l with
  | nil => exact absurd rfl h1
  | cons c r =>
    unfold nameP at h1 h2 ⊢
    simp only [List.cons_append] at *
    cases hc : beginI c.toNat with
    | false => rw [hc] at h1; exact absurd rfl h1
    | true =>
      rw [hc] at h2
      simp only [if_true] at h2 ⊢
      obtain ⟨e1, e2⟩ := tw_ext (c :: r) X h2
      rw [← List.cons_append, e1, e2]
theorem pre_ext {l p : List UInt8} (X : List UInt8) (h : Lib.hasPrefix l p = true) : Lib.hasPrefix (l ++ X) p = true := by
  unfold Lib.hasPrefix at *
  rw [List.isPrefixOf_iff_prefix] at *
  exact h.trans (List.prefix_append l X)
theorem pre_le {l p : List UInt8} (h : Lib.hasPrefix l p = true) : p.length ≤ l.length := by
  unfold Lib.hasPrefix at h
  rw [List.isPrefixOf_iff_prefix] at h
  exact h.length_le
theorem pre_no_ext {l p X : List UInt8} (h : Lib.hasPrefix l p = false) (hb : ∀ k, k < p.length → l ≠ p.take k) : Lib.hasPrefix (l ++ X) p = false := by
  cases e : Lib.hasPrefix (l ++ X) p with
  | false => rfl
  | true =>
    exfalso
    unfold Lib.hasPrefix at *
    rw [List.isPrefixOf_iff_prefix] at e
    by_cases hl : p.length ≤ l.length
    · have := List.prefix_of_prefix_length_le e (List.prefix_append l X) hl
      rw [← List.isPrefixOf_iff_prefix, h] at this
      cases this
    · have := List.prefix_of_prefix_length_le (List.prefix_append l X) e (by omega)
      exact hb l.length (by omega) (List.prefix_iff_eq_take.1 this)
theorem index_ext : ∀ (l sub X : List UInt8), sub ≠ [] → 0 ≤ Lib.index l sub → Lib.index (l ++ X) sub = Lib.index l sub
  | [], sub, X, hs, h => by
    exfalso
    have := Lib.index_room [] sub h
    cases sub with
    | nil => exact hs rfl
    | cons a b => simp at this; omega
  | a :: l, sub, X, hs, h => by
    rw [List.cons_append, Lib.index, Lib.index]
    by_cases hp : sub.isPrefixOf (a :: l) = true
    · have hp2 : sub.isPrefixOf (a :: (l ++ X)) = true := pre_ext X hp
      rw [if_pos hp, if_pos hp2]
    · have e1 : Lib.index (a :: l) sub = if Lib.index l sub == -1 then -1 else Lib.index l sub + 1 := by rw [Lib.index, if_neg hp]
      have hge := Lib.index_ge l sub
      have hl : 0 ≤ Lib.index l sub := by
        rw [e1] at h
        by_cases hq : Lib.index l sub = -1
        · rw [hq] at h; simp at h
        · omega
      have ih := index_ext l sub X hs hl
      have hroom := Lib.index_room l sub hl
      have hp2 : ¬ sub.isPrefixOf (a :: (l ++ X)) = true := by
        intro e
        have := pre_no_ext (l := a :: l) (p := sub) (X := X) ((Bool.not_eq_true _).mp hp) (fun k hk e => by
          have := congrArg List.length e
          rw [List.length_cons, List.length_take] at this
          omega)
        rw [List.cons_append] at this
        unfold Lib.hasPrefix at this
        rw [e] at this
        cases this
      rw [if_neg hp, if_neg hp2, ih]
theorem cutL_ext {sep l x r X : List UInt8} (hs : sep ≠ []) (h : cutL sep l = some (x, r)) : cutL sep (l ++ X) = some (x, r ++ X) := by
  unfold cutL at *
  split at h
  · rename_i hi
    have hroom := Lib.index_room l sep hi
    rw [index_ext l sep X hs hi, if_pos hi]
    simp only [Option.some.injEq, Prod.mk.injEq] at h
    rw [← h.1, ← h.2, List.take_append_of_le_length (by omega), List.drop_append_of_le_length (by omega)]
  · cases h
theorem valueL_ext {l v r X : List UInt8} (h : valueL l = some (v, r)) : valueL (l ++ X) = some (v, r ++ X) := by
  cases l with
  | nil => cases h
  | cons c t =>
    rw [List.cons_append]
    unfold valueL at *
    simp only at *
    split at h
    · rename_i hc
      rw [if_pos hc]
      cases hx : cutL [c] t with
      | none => rw [hx] at h; cases h
      | some p =>
        obtain ⟨raw, rest⟩ := p
        rw [hx] at h
        rw [cutL_ext (by simp) hx]
        simp only at h ⊢
        split at h
        · cases h
        · rename_i hn
          rw [if_neg hn]
          cases he : entL raw with
          | none => rw [he] at h; cases h
          | some y =>
            rw [he] at h
            simp only [Option.map_some, Option.some.injEq, Prod.mk.injEq] at h ⊢
            exact ⟨h.1, by rw [h.2]⟩
    · cases h
theorem attrL_ext {l r X : List UInt8} {a : List UInt8 × List UInt8} (h : attrL l = some (a, r)) : attrL (l ++ X) = some (a, r ++ X) := by
  unfold attrL at h
  split at h
  · cases h
  · rename_i hn
    cases hk : skipL (nameP l).2 with
    | nil => rw [hk] at h; cases h
    | cons c t =>
      rw [hk] at h
      simp only at h
      split at h
      · rename_i hc
        cases hv : valueL (skipL t) with
        | none => rw [hv] at h; cases h
        | some p =>
          obtain ⟨v, rest⟩ := p
          rw [hv] at h
          have hk2 : skipL t ≠ [] := by intro e; rw [e] at hv; cases hv
          have hk1 : skipL (nameP l).2 ≠ [] := by rw [hk]; simp
          have hn2 : (nameP l).2 ≠ [] := by intro e; rw [e] at hk1; exact hk1 rfl
          unfold attrL
          rw [nameP_ext hn hn2, if_neg hn]
          simp only
          rw [skipL_ext hk1, hk, List.cons_append]
          simp only
          rw [if_pos hc, skipL_ext hk2, valueL_ext hv]
          simp only [Option.map_some, Option.some.injEq, Prod.mk.injEq] at h ⊢
          exact ⟨h.1, by rw [h.2]⟩
      · cases h
theorem attrL_ne {l r : List UInt8} {a : List UInt8 × List UInt8} (h : attrL l = some (a, r)) : l ≠ [] := by
  rintro rfl; cases h
theorem attrsL_ext : ∀ (n : Nat) (acc : List (List UInt8 × List UInt8)) (l X : List UInt8), l.length ≤ n → ∀ (a : List (List UInt8 × List UInt8)) (e : Bool) (rest : List UInt8), attrsL acc l = some (a, e, rest) → attrsL acc (l ++ 60 :: X) = some (a, e, rest ++ 60 :: X)
  | n, acc, l, X, hn, a, e, rest, h => by
    cases h62 : Lib.hasPrefix (skipL l) [62] with
    | true =>
      rw [attrsL_gt h62] at h
      simp only [Option.some.injEq, Prod.mk.injEq] at h
      have hl := pre_le h62
      have hne : skipL l ≠ [] := by intro e; rw [e] at hl; simp at hl
      have h1 : Lib.hasPrefix (skipL (l ++ 60 :: X)) [62] = true := by rw [skipL_ext hne]; exact pre_ext _ h62
      rw [attrsL_gt h1, skipL_ext hne, List.drop_append_of_le_length (show 1 ≤ (skipL l).length from hl), h.2.2, h.1, h.2.1]
    | false =>
      cases h47 : Lib.hasPrefix (skipL l) [47, 62] with
      | true =>
        rw [attrsL_sl h62 h47] at h
        simp only [Option.some.injEq, Prod.mk.injEq] at h
        have hl := pre_le h47
        have hne : skipL l ≠ [] := by intro e; rw [e] at hl; simp at hl
        have h1 : Lib.hasPrefix (skipL (l ++ 60 :: X)) [47, 62] = true := by rw [skipL_ext hne]; exact pre_ext _ h47
        have h0 : Lib.hasPrefix (skipL (l ++ 60 :: X)) [62] = false := by
          rw [skipL_ext hne]
          exact pre_no_ext h62 (fun k hk e => by
            have : k = 0 := by simp at hk; omega
            subst this; exact hne e)
        rw [attrsL_sl h0 h1, skipL_ext hne, List.drop_append_of_le_length (show 2 ≤ (skipL l).length from hl), h.2.2, h.1, h.2.1]
      | false =>
        have hm := h
        rw [attrsL_more h62 h47] at hm
        split at hm
        · cases hm
        · rename_i hle
          cases ha : attrL (skipL l) with
          | none => rw [ha] at hm; cases hm
          | some x =>
            obtain ⟨a1, r⟩ := x
            rw [ha] at hm
            simp only at hm
            split at hm
            · cases hm
            · rename_i hno
              have hne := attrL_ne ha
              have h1 := attrL_lt ha
              have h2 := skipL_le l
              have h0 : Lib.hasPrefix (skipL (l ++ 60 :: X)) [62] = false := by
                rw [skipL_ext hne]
                exact pre_no_ext h62 (fun k hk e => by
                  have : k = 0 := by simp at hk; omega
                  subst this; exact hne e)
              have h3 : Lib.hasPrefix (skipL (l ++ 60 :: X)) [47, 62] = false := by
                rw [skipL_ext hne]
                cases hs : skipL l with
                | nil => exact absurd hs hne
                | cons c t =>
                  cases t with
                  | nil => simp [Lib.hasPrefix, List.isPrefixOf]
                  | cons d u =>
                    rw [hs] at h47
                    exact pre_no_ext h47 (fun k hk e => by
                      have := congrArg List.length e
                      rw [List.length_take] at this
                      simp at this hk
                      omega)
              rw [attrsL_more h0 h3, skipL_ext hne, if_neg (by rw [List.length_append, List.length_append]; omega), attrL_ext ha]
              simp only
              rw [if_neg hno]
              match n, hn with
              | 0, hn => omega
              | n + 1, hn => exact attrsL_ext n (acc ++ [a1]) r X (by omega) a e rest hm
theorem attrsL_nil (acc : List (List UInt8 × List UInt8)) : attrsL acc [] = none := by
  rw [attrsL_more (by rfl) (by rfl), if_pos (by rfl)]
theorem openL_ext {l rest : List UInt8} {t : Tok} (X : List UInt8) (h : openL l = some (t, rest)) : openL (l ++ 60 :: X) = some (t, rest ++ 60 :: X) := by
  unfold openL at h
  split at h
  · cases h
  · rename_i hn
    cases ha : attrsL [] (nameP l).2 with
    | none =>
      unfold attrsL at ha
      rw [ha] at h; cases h
    | some x =>
      obtain ⟨a, e, r⟩ := x
      have ha' := ha
      unfold attrsL at ha'
      rw [ha'] at h
      have hn2 : (nameP l).2 ≠ [] := by intro e; rw [e, attrsL_nil] at ha; cases ha
      have h2 := attrsL_ext _ [] (nameP l).2 X (Nat.le_refl _) a e r ha
      unfold openL
      rw [nameP_ext hn hn2, if_neg hn]
      simp only
      unfold attrsL at h2
      rw [h2]
      simp only [Option.map_some, Option.some.injEq, Prod.mk.injEq] at h ⊢
      exact ⟨h.1, by rw [h.2]⟩
theorem closeL_ext {l rest : List UInt8} {t : Tok} (X : List UInt8) (h : closeL l = some (t, rest)) : closeL (l ++ X) = some (t, rest ++ X) := by
  unfold closeL at h
  split at h
  · cases h
  · rename_i hn
    split at h
    · rename_i hp
      have hl := pre_le hp
      have hne : skipL (nameP l).2 ≠ [] := by intro e; rw [e] at hl; simp at hl
      have hn2 : (nameP l).2 ≠ [] := by intro e; rw [e] at hne; exact hne rfl
      unfold closeL
      rw [nameP_ext hn hn2, if_neg hn]
      simp only
      rw [skipL_ext hne, if_pos (pre_ext X hp), List.drop_append_of_le_length (show 1 ≤ (skipL (nameP l).2).length from hl)]
      simp only [Option.some.injEq, Prod.mk.injEq] at h ⊢
      exact ⟨h.1, by rw [h.2]⟩
    · cases h
theorem commentL_ext {l rest : List UInt8} {t : Tok} (X : List UInt8) (h : commentL l = some (t, rest)) : commentL (l ++ X) = some (t, rest ++ X) := by
  unfold commentL at *
  cases hc : cutL [45, 45, 62] l with
  | none => rw [hc] at h; cases h
  | some p =>
    obtain ⟨x, r⟩ := p
    rw [hc] at h
    rw [cutL_ext (by simp) hc]
    simp only at h ⊢
    split at h
    · cases h
    · rename_i hn
      rw [if_neg hn]
      simp only [Option.some.injEq, Prod.mk.injEq] at h ⊢
      exact ⟨h.1, by rw [h.2]⟩
theorem tw60 : ∀ (l X : List UInt8), (l ++ 60 :: X).takeWhile (· != 60) = l.takeWhile (· != 60) ∧ (l ++ 60 :: X).dropWhile (· != 60) = l.dropWhile (· != 60) ++ 60 :: X
  | [], X => ⟨rfl, rfl⟩
  | c :: r, X => by
    obtain ⟨h1, h2⟩ := tw60 r X
    rw [List.cons_append, List.takeWhile_cons, List.dropWhile_cons, List.takeWhile_cons, List.dropWhile_cons]
    cases hc : (c != 60) with
    | false => exact ⟨rfl, rfl⟩
    | true =>
      simp only [if_true]
      exact ⟨by rw [h1], h2⟩
theorem textL_ext {l rest : List UInt8} {t : Tok} (X : List UInt8) (h : textL l = some (t, rest)) : textL (l ++ 60 :: X) = some (t, rest ++ 60 :: X) := by
  unfold textL at *
  rw [(tw60 l X).1, (tw60 l X).2]
  cases he : entL (l.takeWhile (· != 60)) with
  | none => rw [he] at h; cases h
  | some y =>
    rw [he] at h
    simp only [Option.map_some, Option.some.injEq, Prod.mk.injEq] at h ⊢
    exact ⟨h.1, by rw [h.2]⟩
theorem short_none1 : ∀ (k : Fin 4) (f : Bool), k.val ≠ 0 → tokL f (([60, 33, 45, 45] : List UInt8).take k.val) = none := by decide +kernel
theorem short_none2 : ∀ (k : Fin 9) (f : Bool), k.val ≠ 0 → tokL f (([60, 33, 91, 67, 68, 65, 84, 65, 91] : List UInt8).take k.val) = none := by decide +kernel
theorem short_none3 : ∀ (k : Fin 2) (f : Bool), k.val ≠ 0 → tokL f (([60, 63] : List UInt8).take k.val) = none := by decide +kernel
theorem short_none4 : ∀ (k : Fin 2) (f : Bool), k.val ≠ 0 → tokL f (([60, 47] : List UInt8).take k.val) = none := by decide +kernel
theorem pre_same {f : Bool} {l p rest : List UInt8} {t : Tok} (X : List UInt8) (h : tokL f l = some (t, rest)) (hl : l ≠ []) (hp : ∀ k : Fin p.length, k.val ≠ 0 → tokL f (p.take k.val) = none) : Lib.hasPrefix (l ++ X) p = Lib.hasPrefix l p := by
  cases e : Lib.hasPrefix l p with
  | true => exact pre_ext X e
  | false =>
    refine pre_no_ext e (fun k hk e2 => ?_)
    by_cases h0 : k = 0
    · subst h0; exact hl e2
    · have := hp ⟨k, hk⟩ h0
      simp only at this
      rw [← e2, h] at this
      cases this
theorem tokL_ext {f : Bool} {l rest : List UInt8} {t : Tok} (X : List UInt8) (h : tokL f l = some (t, rest)) (hl : l ≠ []) : tokL f (l ++ 60 :: X) = some (t, rest ++ 60 :: X) := by
  have e1 := pre_same (p := [60, 33, 45, 45]) (60 :: X) h hl (fun k hk => short_none1 k f hk)
  have e2 := pre_same (p := [60, 33, 91, 67, 68, 65, 84, 65, 91]) (60 :: X) h hl (fun k hk => short_none2 k f hk)
  have e3 := pre_same (p := [60, 63]) (60 :: X) h hl (fun k hk => short_none3 k f hk)
  have e4 := pre_same (p := [60, 47]) (60 :: X) h hl (fun k hk => short_none4 k f hk)
  have e5 : Lib.hasPrefix (l ++ 60 :: X) [60] = Lib.hasPrefix l [60] := by
    cases l with
    | nil => exact absurd rfl hl
    | cons c r => rfl
  unfold tokL at h ⊢
  rw [e1, e2, e3, e4, e5]
  split at h
  · rename_i q
    rw [if_pos q, List.drop_append_of_le_length (show 4 ≤ l.length from pre_le q)]
    exact commentL_ext _ h
  · rename_i q
    rw [if_neg q]
    split at h
    · rename_i q
      rw [if_pos q, List.drop_append_of_le_length (show 9 ≤ l.length from pre_le q)]
      cases hx : cutL [93, 93, 62] (l.drop 9) with
      | none => rw [hx] at h; cases h
      | some p =>
        obtain ⟨x, r⟩ := p
        rw [hx] at h
        rw [cutL_ext (by simp) hx]
        simp only [Option.map_some, Option.some.injEq, Prod.mk.injEq] at h ⊢
        exact ⟨h.1, by rw [h.2]⟩
    · rename_i q
      rw [if_neg q]
      split at h
      · rename_i q
        rw [if_pos q]
        split at h
        · rename_i qf
          rw [if_pos qf, List.drop_append_of_le_length (show 2 ≤ l.length from pre_le q)]
          cases hx : cutL [63, 62] (l.drop 2) with
          | none => rw [hx] at h; cases h
          | some p =>
            obtain ⟨x, r⟩ := p
            rw [hx] at h
            rw [cutL_ext (by simp) hx]
            simp only [Option.map_some, Option.some.injEq, Prod.mk.injEq] at h ⊢
            exact ⟨h.1, by rw [h.2]⟩
        · cases h
      · rename_i q
        rw [if_neg q]
        split at h
        · rename_i q
          rw [if_pos q, List.drop_append_of_le_length (show 2 ≤ l.length from pre_le q)]
          exact closeL_ext _ h
        · rename_i q
          rw [if_neg q]
          split at h
          · rename_i q
            rw [if_pos q, List.drop_append_of_le_length (show 1 ≤ l.length from pre_le q)]
            exact openL_ext _ h
          · rename_i q
            rw [if_neg q]
            exact textL_ext _ h
theorem splitM_ext : ∀ (n : Nat) (f : Bool) (a X : List UInt8) (ts : List Tok), a.length ≤ n → a ≠ [] → splitM f a = some ts → splitM f (a ++ 60 :: X) = (splitM false (60 :: X)).map (ts ++ ·)
  | 0, f, a, X, ts, hn, hne, h => by
    cases a with
    | nil => exact absurd rfl hne
    | cons => simp at hn
  | n + 1, f, a, X, ts, hn, hne, h => by
    rw [splitM_step hne] at h
    rw [splitM_step (by simp [hne])]
    cases ht : tokL f a with
    | none => rw [ht] at h; cases h
    | some x =>
      obtain ⟨t, rest⟩ := x
      have hlt := tokL_lt ht (List.length_pos_iff.2 hne)
      rw [ht] at h
      rw [tokL_ext X ht hne]
      simp only at h ⊢
      cases hs : splitM false rest with
      | none => rw [hs] at h; cases h
      | some t2 =>
        rw [hs] at h
        simp only [Option.map_some, Option.some.injEq] at h
        by_cases hr : rest = []
        · subst hr
          rw [splitM_nil] at hs
          injection hs with hs
          subst hs
          rw [List.nil_append, ← h]
          rfl
        · rw [splitM_ext n false rest X t2 (by omega) hr hs, Option.map_map, ← h]
          rfl
theorem tokL_c (f : Bool) (b : List UInt8) : tokL f (60 :: 99 :: 47 :: 62 :: b) = some (⟨1, [99], [], [], true⟩, b) := rfl
theorem splitM_c (f : Bool) (b : List UInt8) : splitM f (60 :: 99 :: 47 :: 62 :: b) = (splitM false b).map (⟨1, [99], [], [], true⟩ :: ·) := by
  rw [splitM_step (by simp), tokL_c]
theorem tokL_kind {f : Bool} {l rest : List UInt8} {t : Tok} (h : tokL f l = some (t, rest)) : (t.kind = 5) ↔ (Lib.hasPrefix l [60, 63] = true) := by
  unfold tokL at h
  split at h
  · rename_i q
    have : ¬ Lib.hasPrefix l [60, 63] = true := by
      intro e
      unfold Lib.hasPrefix at q e
      match l, q, e with
      | a :: b :: l, q, e => simp [List.isPrefixOf] at q e; rw [← e.2] at q; exact absurd q.2.1 (by decide)
    unfold commentL at h
    split at h
    · cases h
    · split at h
      · cases h
      · simp only [Option.some.injEq, Prod.mk.injEq] at h
        rw [← h.1]; exact ⟨fun e => by simp at e, fun e => absurd e this⟩
  · split at h
    · rename_i q
      have : ¬ Lib.hasPrefix l [60, 63] = true := by
        intro e
        unfold Lib.hasPrefix at q e
        match l, q, e with
        | a :: b :: l, q, e => simp [List.isPrefixOf] at q e; rw [← e.2] at q; exact absurd q.2.1 (by decide)
      cases hx : cutL [93, 93, 62] (l.drop 9) with
      | none => rw [hx] at h; cases h
      | some p =>
        rw [hx] at h
        simp only [Option.map_some, Option.some.injEq, Prod.mk.injEq] at h
        rw [← h.1]; exact ⟨fun e => by simp at e, fun e => absurd e this⟩
    · split at h
      · rename_i q
        split at h
        · cases hx : cutL [63, 62] (l.drop 2) with
          | none => rw [hx] at h; cases h
          | some p =>
            rw [hx] at h
            simp only [Option.map_some, Option.some.injEq, Prod.mk.injEq] at h
            rw [← h.1]; exact ⟨fun _ => q, fun _ => rfl⟩
        · cases h
      · rename_i q
        have key : t.kind ≠ 5 → ((t.kind = 5) ↔ (Lib.hasPrefix l [60, 63] = true)) := fun e => ⟨fun e2 => absurd e2 e, fun e2 => absurd e2 q⟩
        apply key
        split at h
        · unfold closeL at h
          split at h
          · cases h
          · split at h
            · simp only [Option.some.injEq, Prod.mk.injEq] at h
              rw [← h.1]; simp
            · cases h
        · split at h
          · unfold openL at h
            split at h
            · cases h
            · cases ha : attrsF ((nameP (l.drop 1)).2.length + 1) [] (nameP (l.drop 1)).2 with
              | none => rw [ha] at h; cases h
              | some x =>
                rw [ha] at h
                simp only [Option.map_some, Option.some.injEq, Prod.mk.injEq] at h
                rw [← h.1]; simp
          · unfold textL at h
            cases he : entL (l.takeWhile (· != 60)) with
            | none => rw [he] at h; cases h
            | some x =>
              rw [he] at h
              simp only [Option.map_some, Option.some.injEq, Prod.mk.injEq] at h
              rw [← h.1]; simp
theorem splitL_M' (l : List UInt8) : splitL l = splitM true l := rfl
/-- the kind of the first one, if there is one -/
def headK (ts : List Tok) : Nat := match ts with | [] => 0 | t :: _ => t.kind
theorem split_false {b : List UInt8} {tb : List Tok} (h : splitL b = some tb) : splitM false b = if headK tb = 5 then none else some tb := by
  rw [splitL_M'] at h
  by_cases hb : b = []
  · subst hb
    rw [splitM_nil] at h ⊢
    injection h with h
    subst h
    rfl
  · rw [splitM_step hb] at h ⊢
    cases ht : tokL true b with
    | none => rw [ht] at h; cases h
    | some x =>
      obtain ⟨t, rest⟩ := x
      rw [ht] at h
      simp only at h
      cases hs : splitM false rest with
      | none => rw [hs] at h; cases h
      | some t2 =>
        rw [hs] at h
        simp only [Option.map_some, Option.some.injEq] at h
        have hk := tokL_kind ht
        subst h
        by_cases hq : Lib.hasPrefix b [60, 63] = true
        · have h5 : headK (t :: t2) = 5 := hk.2 hq
          rw [if_pos h5]
          have : tokL false b = none := by
            have hq1 : Lib.hasPrefix b [60, 33, 45, 45] = false := by
              clear ht hs hb h5 hk
              unfold Lib.hasPrefix at *
              cases b with
              | nil => cases hq
              | cons a l =>
                cases l with
                | nil => simp [List.isPrefixOf] at hq
                | cons c l => simp [List.isPrefixOf] at hq; simp [List.isPrefixOf, ← hq.2]
            have hq2 : Lib.hasPrefix b [60, 33, 91, 67, 68, 65, 84, 65, 91] = false := by
              clear ht hs hb h5 hk
              unfold Lib.hasPrefix at *
              cases b with
              | nil => cases hq
              | cons a l =>
                cases l with
                | nil => simp [List.isPrefixOf] at hq
                | cons c l => simp [List.isPrefixOf] at hq; simp [List.isPrefixOf, ← hq.2]
            unfold tokL
            rw [if_neg (by rw [hq1]; decide), if_neg (by rw [hq2]; decide), if_pos hq]; rfl
          rw [this]
        · have h5 : ¬ headK (t :: t2) = 5 := fun e => hq (hk.1 e)
          rw [if_neg h5]
          have : tokL false b = tokL true b := by unfold tokL; rw [if_neg hq, if_neg hq]
          rw [this, ht]
          simp only [hs, Option.map_some]
theorem split_parts {a b : List UInt8} {ta tb : List Tok} (ha : splitL a = some ta) (hb : splitL b = some tb) : splitL (a ++ 60 :: 99 :: 47 :: 62 :: b) = if headK tb = 5 then none else some (ta ++ ⟨1, [99], [], [], true⟩ :: tb) := by
  have hf := split_false hb
  have key : splitL (a ++ 60 :: 99 :: 47 :: 62 :: b) = (splitM false (60 :: 99 :: 47 :: 62 :: b)).map (ta ++ ·) := by
    rw [splitL_M'] at ha ⊢
    by_cases hne : a = []
    · subst hne
      rw [splitM_nil] at ha
      injection ha with ha
      subst ha
      rw [List.nil_append, splitM_c, splitM_c]
      cases splitM false b <;> rfl
    · exact splitM_ext _ true a _ ta (Nat.le_refl _) hne ha
  rw [key, splitM_c, hf]
  split <;> rfl
end Nwl
