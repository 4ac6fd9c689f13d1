/-
  Plain facts: what is so of each token that a text of Allowed bytes is told as.
-/
import Derived.Test.YtkccockdnjjanaaGreatDoorBa
import Derived.Test.YtkccockdnjjanaaGreatDoorMkMath
import Derived.Test.YtkccockdnjjanaaGreatDoorTkSplitM
namespace Nwl
open Go (Lib.cut Lib.index Lib.contains Lib.hasPrefix Lib.encodeRune)
theorem allL_sub {a b : List UInt8} (h : ∀ c ∈ a, c ∈ b) (hb : allL b = true) : allL a = true := by
  unfold allL at hb ⊢
  rw [List.all_eq_true] at hb ⊢
  exact fun c hc => hb c (h c hc)
theorem allL_take {l : List UInt8} (k : Nat) (h : allL l = true) : allL (l.take k) = true := allL_sub (fun _ hc => List.mem_of_mem_take hc) h
theorem allL_drop {l : List UInt8} (k : Nat) (h : allL l = true) : allL (l.drop k) = true := allL_sub (fun _ hc => List.mem_of_mem_drop hc) h
theorem allL_tw {l : List UInt8} (p : UInt8 → Bool) (h : allL l = true) : allL (l.takeWhile p) = true := allL_sub (fun _ hc => (List.takeWhile_sublist p).subset hc) h
theorem allL_dw {l : List UInt8} (p : UInt8 → Bool) (h : allL l = true) : allL (l.dropWhile p) = true := allL_sub (fun _ hc => (List.dropWhile_sublist p).subset hc) h
theorem allL_cons {c : UInt8} {l : List UInt8} (h : allL (c :: l) = true) : allowedI c.toNat = true ∧ allL l = true := by
  unfold allL at h ⊢
  rw [List.all_cons, Bool.and_eq_true] at h
  exact h
theorem allL_app {a b : List UInt8} (ha : allL a = true) (hb : allL b = true) : allL (a ++ b) = true := by
  unfold allL at ha hb ⊢
  rw [List.all_append, ha, hb]; rfl
theorem allL_cut {sep l a b : List UInt8} (h : cutL sep l = some (a, b)) (hl : allL l = true) : allL a = true ∧ allL b = true := by
  unfold cutL at h
  split at h
  · injection h with h
    injection h with h1 h2
    subst h1 h2
    exact ⟨allL_take _ hl, allL_drop _ hl⟩
  · cases h
theorem enc_all {v : Nat} (h : mayI v = true) : allL (Lib.encodeRune v) = true := by
  unfold allL
  rw [List.all_eq_true]
  intro c hc
  unfold Lib.encodeRune at hc
  obtain ⟨z, hz, rfl⟩ := List.mem_map.1 hc
  have hv : (v : Int) ≤ 1114111 ∧ (32 ≤ (v : Int) ∨ (v : Int) = 9 ∨ (v : Int) = 10 ∨ (v : Int) = 13) := by
    unfold mayI at h
    simp only [Bool.and_eq_true, Bool.or_eq_true, decide_eq_true_eq, beq_iff_eq] at h
    omega
  have key : (z = v ∧ (v : Int) ≤ 127) ∨ (128 ≤ z ∧ z ≤ 255) := by
    unfold Go.Lib.encodeRuneZ at hz
    split at hz
    · rename_i h1
      simp at hz
      exact .inl ⟨hz, h1.2⟩
    · split at hz
      · simp at hz; right; omega
      · split at hz
        · simp at hz; right; omega
        · split at hz
          · simp at hz; right; omega
          · simp at hz; right; omega
  have hb : ((z.toNat.toUInt8).toNat : Int) = z := by
    have : z.toNat < 256 := by omega
    have h2 : (z.toNat.toUInt8).toNat = z.toNat := by
      show z.toNat % 256 = z.toNat
      omega
    rw [h2]
    omega
  rw [hb]
  unfold allowedI spaceI
  simp only [Bool.or_eq_true, decide_eq_true_eq, beq_iff_eq]
  omega
theorem charL_may {b : List UInt8} {v : Nat} (h : charL b = some v) : mayI v = true := by
  have hn : ∀ (base : Nat) (l : List UInt8), numL base l = some v → mayI v = true := by
    intro base l h
    unfold numL at h
    split at h
    · cases h
    · split at h
      · cases h
      · split at h
        · rename_i hm
          injection h with h
          subst h; exact hm
        · cases h
  unfold charL at h
  repeat' split at h
  all_goals first
    | (injection h with h; subst h; decide)
    | exact hn _ _ h
    | cases h
theorem entF_all : ∀ (n : Nat) (l x : List UInt8), allL l = true → entF n l = some x → allL x = true
  | _, [], x, _, h => by
    unfold entF at h
    injection h with h
    subst h; rfl
  | 0, c :: r, x, _, h => by cases h
  | n + 1, c :: r, x, hl, h => by
    obtain ⟨hc, hr⟩ := allL_cons hl
    unfold entF at h
    split at h
    · cases hcut : cutL [59] r with
      | none => rw [hcut] at h; cases h
      | some y =>
        obtain ⟨b, rest⟩ := y
        rw [hcut] at h
        dsimp only at h
        cases hch : charL b with
        | none => rw [hch] at h; cases h
        | some v =>
          rw [hch] at h
          dsimp only at h
          cases he : entF n rest with
          | none => rw [he] at h; cases h
          | some z =>
            rw [he] at h
            injection h with h
            subst h
            exact allL_app (enc_all (charL_may hch)) (entF_all n rest z (allL_cut hcut hr).2 he)
    · cases he : entF n r with
      | none => rw [he] at h; cases h
      | some z =>
        rw [he] at h
        injection h with h
        subst h
        have := entF_all n r z hr he
        unfold allL at this ⊢
        rw [List.all_cons, hc, this]; rfl
theorem nameP_all {l : List UInt8} (h : allL l = true) : allL (nameP l).2 = true := by
  unfold nameP
  split
  · rfl
  · split
    · exact allL_dw _ h
    · exact h
theorem nameP_name {l : List UInt8} (h : (nameP l).1 ≠ []) : nameL (nameP l).1 = true := by
  unfold nameP at h ⊢
  split at h
  · exact absurd rfl h
  · rename_i c r
    split at h
    · rename_i hb
      have hw : within8 c = true := begin_within _ hb
      simp only [if_pos hb]
      rw [List.takeWhile_cons, if_pos hw]
      show (beginI c.toNat && (r.takeWhile within8).all within8) = true
      rw [hb, Bool.true_and]
      exact List.all_takeWhile
    · exact absurd rfl h
theorem valueL_all {l v rest : List UInt8} (h : valueL l = some (v, rest)) (hl : allL l = true) : allL v = true ∧ allL rest = true := by
  unfold valueL at h
  split at h
  · cases h
  · rename_i c r
    obtain ⟨_, hr⟩ := allL_cons hl
    split at h
    · cases hcut : cutL [c] r with
      | none => rw [hcut] at h; cases h
      | some y =>
        obtain ⟨raw, rs⟩ := y
        rw [hcut] at h
        dsimp only at h
        split at h
        · cases h
        · cases he : entL raw with
          | none => rw [he] at h; cases h
          | some z =>
            rw [he] at h
            injection h with h
            injection h with h1 h2
            subst h1 h2
            have hc := allL_cut hcut hr
            exact ⟨entF_all _ _ _ hc.1 he, hc.2⟩
    · cases h
theorem attrL_all {l rest : List UInt8} {a : List UInt8 × List UInt8} (h : attrL l = some (a, rest)) (hl : allL l = true) : nameL a.1 = true ∧ allL a.2 = true ∧ allL rest = true := by
  unfold attrL at h
  split at h
  · cases h
  · rename_i hn
    split at h
    · cases h
    · rename_i c r hs
      have hsk : allL (c :: r) = true := by rw [← hs]; exact allL_dw _ (nameP_all hl)
      obtain ⟨_, hr⟩ := allL_cons hsk
      split at h
      · cases hv : valueL (skipL r) with
        | none => rw [hv] at h; cases h
        | some y =>
          obtain ⟨v, rs⟩ := y
          rw [hv] at h
          injection h with h
          injection h with h1 h2
          subst h1 h2
          have := valueL_all hv (allL_dw _ hr)
          exact ⟨nameP_name hn, this.1, this.2⟩
      · cases h
theorem attrsB_snoc {acc : List (List UInt8 × List UInt8)} {a : List UInt8 × List UInt8} (h : attrsB acc = true) (h1 : (acc.map (·.1)).contains a.1 = false) (h2 : nameL a.1 = true) (h3 : allL a.2 = true) : attrsB (acc ++ [a]) = true := by
  unfold attrsB attrsTo at h ⊢
  rw [List.length_append, List.length_singleton, all_range_succ, Bool.and_eq_true]
  constructor
  · rw [List.all_eq_true] at h ⊢
    intro k hk
    have hk' := List.mem_range.1 hk
    have := h k hk
    unfold attrAtB at this ⊢
    rw [List.getElem?_append_left hk', List.take_append_of_le_length (by omega)]
    exact this
  · unfold attrAtB
    rw [List.getElem?_append_right (Nat.le_refl _), Nat.sub_self]
    show (!((List.take acc.length (acc ++ [a])).map (·.1)).contains a.1 && (nameL a.1 && allL a.2)) = true
    rw [List.take_left, h1, h2, h3]; rfl
theorem attrsF_all : ∀ (n : Nat) (acc : List (List UInt8 × List UInt8)) (l : List UInt8) (a : List (List UInt8 × List UInt8)) (e : Bool) (rest : List UInt8), attrsF n acc l = some (a, e, rest) → allL l = true → attrsB acc = true → attrsB a = true ∧ allL rest = true
  | 0, acc, l, a, e, rest, h, _, _ => by cases h
  | n + 1, acc, l, a, e, rest, h, hl, hacc => by
    have hs : allL (skipL l) = true := allL_dw _ hl
    unfold attrsF at h
    split at h
    · injection h with h
      injection h with h1 h
      injection h with h2 h3
      subst h1 h3
      exact ⟨hacc, allL_drop _ hs⟩
    · split at h
      · injection h with h
        injection h with h1 h
        injection h with h2 h3
        subst h1 h3
        exact ⟨hacc, allL_drop _ hs⟩
      · split at h
        · cases h
        · cases ha : attrL (skipL l) with
          | none => rw [ha] at h; cases h
          | some y =>
            obtain ⟨b, rs⟩ := y
            rw [ha] at h
            dsimp only at h
            split at h
            · cases h
            · rename_i hc
              obtain ⟨h1, h2, h3⟩ := attrL_all ha hs
              exact attrsF_all n _ rs a e rest h h3 (attrsB_snoc hacc (by simpa using hc) h1 h2)
/-- what is so of a token -/
def TokOk (t : Tok) : Prop := (t.kind = 1 → nameL t.name = true ∧ attrsB t.attrs = true) ∧ (t.kind = 3 → allL t.text = true)
theorem tokL_ok {first : Bool} {l rest : List UInt8} {t : Tok} (h : tokL first l = some (t, rest)) (hl : allL l = true) : TokOk t ∧ allL rest = true := by
  have none1 : ∀ (k : Nat) (x : List UInt8), k ≠ 1 → k ≠ 3 → TokOk ⟨k, [], x, [], false⟩ := fun k x h1 h3 => ⟨fun e => absurd e h1, fun e => absurd e h3⟩
  unfold tokL at h
  split at h
  · unfold commentL at h
    cases hc : cutL [45, 45, 62] (l.drop 4) with
    | none => rw [hc] at h; cases h
    | some y =>
      obtain ⟨x, rs⟩ := y
      rw [hc] at h
      dsimp only at h
      split at h
      · cases h
      · injection h with h
        injection h with h1 h2
        subst h1 h2
        exact ⟨none1 4 x (by decide) (by decide), (allL_cut hc (allL_drop _ hl)).2⟩
  · split at h
    · cases hc : cutL [93, 93, 62] (l.drop 9) with
      | none => rw [hc] at h; cases h
      | some y =>
        obtain ⟨x, rs⟩ := y
        rw [hc] at h
        injection h with h
        injection h with h1 h2
        subst h1 h2
        have := allL_cut hc (allL_drop _ hl)
        exact ⟨⟨fun e => (by cases e), fun _ => this.1⟩, this.2⟩
    · split at h
      · split at h
        · cases hc : cutL [63, 62] (l.drop 2) with
          | none => rw [hc] at h; cases h
          | some y =>
            obtain ⟨x, rs⟩ := y
            rw [hc] at h
            injection h with h
            injection h with h1 h2
            subst h1 h2
            exact ⟨none1 5 x (by decide) (by decide), (allL_cut hc (allL_drop _ hl)).2⟩
        · cases h
      · split at h
        · unfold closeL at h
          split at h
          · cases h
          · split at h
            · injection h with h
              injection h with h1 h2
              subst h1 h2
              exact ⟨⟨fun e => (by cases e), fun e => (by cases e)⟩, allL_drop _ (allL_dw _ (nameP_all (allL_drop _ hl)))⟩
            · cases h
        · split at h
          · unfold openL at h
            split at h
            · cases h
            · rename_i hn
              cases ha : attrsF ((nameP (l.drop 1)).2.length + 1) [] (nameP (l.drop 1)).2 with
              | none => rw [ha] at h; cases h
              | some y =>
                obtain ⟨a, e, rs⟩ := y
                rw [ha] at h
                injection h with h
                injection h with h1 h2
                subst h1 h2
                have := attrsF_all _ _ _ a e rs ha (nameP_all (allL_drop _ hl)) rfl
                exact ⟨⟨fun _ => ⟨nameP_name hn, this.1⟩, fun e => (by cases e)⟩, this.2⟩
          · unfold textL at h
            cases he : entL (l.takeWhile (· != 60)) with
            | none => rw [he] at h; cases h
            | some x =>
              rw [he] at h
              injection h with h
              injection h with h1 h2
              subst h1 h2
              exact ⟨⟨fun e => (by cases e), fun _ => entF_all _ _ _ (allL_tw _ hl) he⟩, allL_dw _ hl⟩
theorem splitF_ok : ∀ (n : Nat) (first : Bool) (l : List UInt8) (ts : List Tok), allL l = true → splitF n first l = some ts → ∀ t ∈ ts, TokOk t
  | _, _, [], ts, _, h, t, ht => by
    unfold splitF at h
    injection h with h
    subst h
    cases ht
  | 0, _, c :: r, ts, _, h, t, ht => by cases h
  | n + 1, first, c :: r, ts, hl, h, t, ht => by
    unfold splitF at h
    cases hk : tokL first (c :: r) with
    | none => rw [hk] at h; cases h
    | some y =>
      obtain ⟨t0, rest⟩ := y
      rw [hk] at h
      dsimp only at h
      obtain ⟨h1, h2⟩ := tokL_ok hk hl
      cases hs : splitF n false rest with
      | none => rw [hs] at h; cases h
      | some us =>
        rw [hs] at h
        injection h with h
        subst h
        rcases List.mem_cons.1 ht with rfl | ht
        · exact h1
        · exact splitF_ok n false rest us h2 hs t ht
theorem splitT_tok {l : List UInt8} (t : Tok) (ht : t ∈ splitT l) : TokOk t := by
  unfold splitT at ht
  split at ht
  · cases ht
  · split at ht
    · rename_i ha
      cases hs : splitL l with
      | none => rw [hs] at ht; cases ht
      | some ts => rw [hs] at ht; exact splitF_ok _ _ _ ts ha hs t ht
    · cases ht
end Nwl
