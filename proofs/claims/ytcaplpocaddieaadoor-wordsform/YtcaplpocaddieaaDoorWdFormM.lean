/-
  Plain facts for WordsForm: what the words of any text are like; great letters play no part.
-/
import Derived.Test.YtcaplpocaddieaaDoorWdParts
namespace Nwl
/-- what a word may be -/
def wdOk (w : Wd) : Prop := (w.k = 9 ∨ w.k = 10) ∧ (∃ c r, w.t = c :: r ∧ 49 ≤ c.toNat ∧ c.toNat ≤ 57) ∨ w.k = 8 ∧ w.t ≠ [] ∨ (1 ≤ w.k ∧ w.k ≤ 7) ∧ w.t = []
theorem dropWhile_first (p : UInt8 → Bool) : ∀ (l : List UInt8) (c : UInt8) (r : List UInt8), l.dropWhile p = c :: r → c ∈ l ∧ p c = false
  | [], c, r, h => by simp at h
  | x :: l, c, r, h => by
    rw [List.dropWhile_cons] at h
    cases hx : p x with
    | true =>
      rw [hx, if_pos rfl] at h
      obtain ⟨h1, h2⟩ := dropWhile_first p l c r h
      exact ⟨List.mem_cons_of_mem _ h1, h2⟩
    | false =>
      rw [hx, if_neg (by decide)] at h
      injection h with h1 h2
      subst h1
      exact ⟨List.mem_cons_self, hx⟩
theorem numW_ok (s : List UInt8) (d : Bool) (hs : ∀ c ∈ s, dig8 c = true) : wdOk (numW s d) := by
  rw [numW_eq]
  cases hd : s.dropWhile is0 with
  | nil => exact .inr (.inr ⟨⟨show (1 : Nat) ≤ 6 by decide, show (6 : Nat) ≤ 7 by decide⟩, rfl⟩)
  | cons c r =>
    obtain ⟨h1, h2⟩ := dropWhile_first is0 s c r hd
    have hdg := hs c h1
    unfold dig8 digitI at hdg
    simp at hdg
    unfold is0 at h2
    rw [beq_eq_false_iff_ne] at h2
    have hc : ∃ c' r', c :: r = c' :: r' ∧ 49 ≤ c'.toNat ∧ c'.toNat ≤ 57 := ⟨c, r, rfl, by omega, by omega⟩
    cases d with
    | true => exact .inl ⟨.inl rfl, hc⟩
    | false => exact .inl ⟨.inr rfl, hc⟩
theorem namedK_ok (s : List UInt8) : 1 ≤ namedK s ∧ namedK s ≤ 8 := by
  unfold namedK
  repeat' split
  all_goals decide
theorem shortK_ok (s : List UInt8) : 1 ≤ shortK s ∧ shortK s ≤ 8 := by
  unfold shortK
  repeat' split
  all_goals decide
theorem wordW_ok (s : List UInt8) (d n : Bool) (hs : digHd s = true → ∀ c ∈ s, dig8 c = true) : wdOk (wordW s d n) := by
  unfold wordW
  by_cases h : (s.isEmpty || digHd s) = true
  · rw [if_pos h]
    apply numW_ok
    cases s with
    | nil => intro c hc; simp at hc
    | cons c r => exact hs (by simpa using h)
  · rw [if_neg h]
    have hk : 1 ≤ kindW s n ∧ kindW s n ≤ 8 := by
      unfold kindW
      split
      · exact shortK_ok s
      · exact namedK_ok s
    by_cases h8 : kindW s n = 8
    · rw [h8]
      refine .inr (.inl ⟨rfl, ?_⟩)
      intro e
      have e' : s = [] := e
      rw [e'] at h
      exact h rfl
    · rw [if_neg (by simpa using h8)]
      exact .inr (.inr ⟨⟨hk.1, by show kindW s n ≤ 7; omega⟩, rfl⟩)
theorem part_dig (l : List UInt8) : digHd (l.take (partN l)) = true → ∀ c ∈ l.take (partN l), dig8 c = true := by
  have he : l.take (partN l) = l.takeWhile (partQ (l.headD 0)) := by
    unfold partN
    have := List.takeWhile_append_dropWhile (p := partQ (l.headD 0)) (l := l)
    conv => lhs; arg 2; rw [← this]
    exact List.take_left
  rw [he]
  intro h c hc
  have hq : partQ (l.headD 0) c = true := List.all_eq_true.1 (List.all_takeWhile (l := l) (p := partQ (l.headD 0))) c hc
  cases l with
  | nil => simp at hc
  | cons x r =>
    have hx : dig8 x = true := by
      simp only [List.headD_cons] at h
      rw [List.takeWhile_cons] at h
      cases hp : partQ x x with
      | true => rw [hp, if_pos rfl] at h; exact h
      | false => rw [hp, if_neg (by decide)] at h; cases h
    unfold partQ at hq
    simp only [List.headD_cons, Bool.and_eq_true, beq_iff_eq] at hq
    rw [hq.2, hx]
theorem partsF_dig : ∀ (f : Nat) (d : Bool) (l : List UInt8), ∀ p ∈ partsF f d l, digHd p.s = true → ∀ c ∈ p.s, dig8 c = true
  | 0, _, _, p, hp => by simp [partsF] at hp
  | f + 1, d, l, p, hp => by
    rw [partsF] at hp
    rcases List.mem_cons.1 hp with rfl | hp
    · exact part_dig l
    · split at hp
      · simp at hp
      · exact partsF_dig f _ _ p hp
theorem cleanW_sub : ∀ (ws : List Wd), ∀ w ∈ cleanW ws, w ∈ ws
  | [], w, h => h
  | x :: ws, w, h => by
    rw [cleanW] at h
    split at h
    · exact List.mem_cons_of_mem _ (cleanW_sub ws w h)
    · rcases List.mem_cons.1 h with rfl | h
      · exact List.mem_cons_self
      · exact List.mem_cons_of_mem _ (cleanW_sub ws w h)
theorem splitW_ok (l : List UInt8) : ∀ w ∈ splitW l, wdOk w := by
  intro w hw
  unfold splitW wordsL at hw
  obtain ⟨p, hp, rfl⟩ := List.mem_map.1 (cleanW_sub _ w hw)
  exact wordW_ok _ _ _ (partsF_dig _ _ _ p hp)
theorem cleanW_next : ∀ (ws : List Wd) (i : Nat) (h : i < (cleanW ws).length), (cleanW ws)[i].k = 6 → ∃ h2 : i + 1 < (cleanW ws).length, (cleanW ws)[i + 1].k = 6 ∨ (cleanW ws)[i + 1].k = 10
  | [], i, h, _ => by simp [cleanW] at h
  | w :: ws, i, h, hk => by
    have hsplit : cleanW (w :: ws) = cleanW ws ∨ (cleanW (w :: ws) = w :: cleanW ws ∧ (noN w = true → aheadW (cleanW ws) = true)) := by
      rw [cleanW]
      cases hn : noN w with
      | false => exact .inr ⟨rfl, fun e => by cases e⟩
      | true =>
        cases ha : aheadW (cleanW ws) with
        | true => exact .inr ⟨rfl, fun _ => rfl⟩
        | false => exact .inl rfl
    rcases hsplit with e | ⟨e, ha⟩
    · simp only [e] at hk ⊢
      exact cleanW_next ws i (by rw [e] at h; exact h) hk
    · simp only [e] at hk ⊢
      cases i with
      | zero =>
        have hw : noN w = true := by unfold noN; rw [beq_iff_eq]; exact hk
        have hah := ha hw
        obtain ⟨x, r, hc⟩ : ∃ x r, cleanW ws = x :: r := by
          cases hc : cleanW ws with
          | nil => rw [hc] at hah; cases hah
          | cons x r => exact ⟨x, r, rfl⟩
        rw [hc] at hah
        simp only [hc]
        refine ⟨by simp, ?_⟩
        have hs : softW x = true := hah
        unfold softW at hs
        simp at hs
        simpa using hs
      | succ i =>
        obtain ⟨h2, h3⟩ := cleanW_next ws i (by rw [e] at h; simpa using h) (by simpa using hk)
        exact ⟨by simpa using h2, by simpa using h3⟩
theorem splitW_next (l : List UInt8) (i : Nat) (h : i < (splitW l).length) (hk : (splitW l)[i].k = 6) : ∃ h2 : i + 1 < (splitW l).length, (splitW l)[i + 1].k = 6 ∨ (splitW l)[i + 1].k = 10 := cleanW_next _ i h hk
/-- a great letter for a small one -/
def smallB (c : UInt8) : Bool := decide (97 ≤ (c.toNat : Int)) && decide ((c.toNat : Int) ≤ 122)
def up8 (c : UInt8) : UInt8 := if smallB c then c - 32 else c
def upL (l : List UInt8) : List UInt8 := l.map up8
theorem up8_low : ∀ c : Fin 256, low8 (up8 (UInt8.ofNat c.val)) = low8 (UInt8.ofNat c.val) := by decide +kernel
theorem low_up (c : UInt8) : low8 (up8 c) = low8 c := by
  have := up8_low ⟨c.toNat, by have := c.toNat_lt; omega⟩
  simpa using this
theorem split_up (l : List UInt8) : splitW (upL l) = splitW l := by
  unfold splitW
  congr 1
  unfold lowerL upL
  rw [List.map_map]
  congr 1
  funext c
  exact low_up c
theorem up_snoc (s : ByteArray) (k : Nat) (hk : k < s.size) : upL ((bs s).take (k + 1)) = upL ((bs s).take k) ++ [up8 s[k]] := by
  rw [List.take_succ_eq_append_getElem (by rw [bs_length]; exact hk)]
  simp [upL, bs_get s k hk]
theorem up_len (s : ByteArray) (k : Nat) (hk : k ≤ s.size) : (upL ((bs s).take k)).length = k := by
  simp [upL, bs_length]; omega
theorem up8_val (c : UInt8) (h : 97 ≤ (c.toNat : Int) ∧ (c.toNat : Int) ≤ 122) : ((up8 c).toNat : Int) = (c.toNat : Int) - 32 := by
  have e : smallB c = true := by unfold smallB; simp; exact ⟨by omega, by omega⟩
  unfold up8
  rw [if_pos e, UInt8.toNat_sub]
  simp
  omega
theorem up8_same (c : UInt8) (h : ¬ (97 ≤ (c.toNat : Int) ∧ (c.toNat : Int) ≤ 122)) : up8 c = c := by
  have e : smallB c = false := by
    unfold smallB
    rw [Bool.and_eq_false_iff, decide_eq_false_iff_not, decide_eq_false_iff_not]
    omega
  unfold up8
  rw [if_neg (by rw [e]; decide)]
end Nwl
