/-
  Plain facts: ranges of numbers are read as they were written.
-/
import Derived.Test.YtkphkcpckgdgaaaDoorSpAny
import Derived.Test.YtkphkcpckgdgaaaDoorSa
import Derived.Test.YtkphkcpckgdgaaaDoorSb
import Derived.Test.YtkphkcpckgdgaaaDoorOrDots
import Derived.Lib.IndexBytes
namespace Nwl
open Go
set_option linter.unusedSimpArgs false
set_option linter.unusedVariables false

theorem num_cmp (v u : Nat) (hv : v < 10 ^ 9) (hu : u < 10 ^ 9) : cmpV (decF 9 v) (decF 9 u) = Lib.compareInt v u := by
  have h := dots_cmp [v] [u] (by simp) (by simp) (by simpa using hv) (by simpa using hu)
  rw [nums_step [v] [u] (by simpa using hv) (by simpa using hu)] at h
  show cmpV (dotL [v]) (dotL [u]) = _
  rw [h]
  show thenI (Lib.compareInt v u) 0 = _
  unfold thenI
  split
  · rename_i e; exact e.symm
  · rfl
theorem num_zero (n : Nat) (hn : n < 10 ^ 9) : cmpV (decF 9 n ++ [46, 48]) (decF 9 n) = 0 := by
  have h0 : ∀ x ∈ [n, 0], x < 10 ^ 9 := by
    intro x hx
    simp at hx
    rcases hx with rfl | rfl
    · exact hn
    · decide
  have h := dots_cmp [n, 0] [n] (by simp) (by simp) h0 (by simpa using hn)
  rw [nums_step [n, 0] [n] h0 (by simpa using hn)] at h
  have e : dotL [n, 0] = decF 9 n ++ [46, 48] := rfl
  rw [e] at h
  show cmpV _ (dotL [n]) = _
  rw [h]
  show thenI (Lib.compareInt n n) (wordsC [numZ 0] []) = 0
  rw [ci_eq rfl]
  rfl
/-- a version without blanks, brackets' ends and commas -/
def Cl (l : List UInt8) : Prop := l ≠ [] ∧ ∀ c ∈ l, c ≠ 32 ∧ c ≠ 41 ∧ c ≠ 44 ∧ c ≠ 93
theorem dec_cl (v : Nat) : Cl (decF 9 v) := by
  refine ⟨decF_ne 9 v (by decide), fun c hc => ?_⟩
  have := decF_dig 9 v c hc
  refine ⟨?_, ?_, ?_, ?_⟩ <;> (rintro rfl; revert this; decide)
theorem trim_no (l : List UInt8) (h : ∀ c ∈ l, c ≠ 32) : Lib.trimB l 32 = l := by
  have dw : ∀ m : List UInt8, (∀ c ∈ m, c ≠ 32) → m.dropWhile (· == 32) = m := by
    intro m hm
    cases m with
    | nil => rfl
    | cons a m =>
      rw [List.dropWhile_cons, if_neg]
      rw [beq_iff_eq]
      exact hm a List.mem_cons_self
  unfold Lib.trimB Lib.trimLeftB Lib.trimRightB
  rw [dw l.reverse (fun c hc => h c (List.mem_reverse.1 hc)), List.reverse_reverse, dw l h]
theorem byte_at (c : UInt8) (R : List UInt8) : ∀ A : List UInt8, (∀ a ∈ A, a ≠ c) → Lib.indexByte (A ++ c :: R) c = A.length
  | [], _ => by rw [List.nil_append, Lib.indexByte, if_pos (by simp)]; rfl
  | a :: A, h => by
    have ih := byte_at c R A fun x hx => h x (List.mem_cons_of_mem _ hx)
    have ha := h a List.mem_cons_self
    rw [List.cons_append, Lib.indexByte, ih, List.length_cons]
    have : ((A.length : Int) == -1) = false := by rw [beq_eq_false_iff_ne]; omega
    rw [this, if_neg (by simp [ha])]
    simp
theorem byte_no (c : UInt8) : ∀ A : List UInt8, (∀ a ∈ A, a ≠ c) → Lib.indexByte A c = -1
  | [], _ => rfl
  | a :: A, h => by
    have ih := byte_no c A fun x hx => h x (List.mem_cons_of_mem _ hx)
    have ha := h a List.mem_cons_self
    rw [Lib.indexByte, ih, if_neg (by simp [ha])]; rfl
theorem cut_two (A R : List UInt8) (h : ∀ a ∈ A, a ≠ 44) : Lib.cut (A ++ 44 :: R) [44] = (A, R, true) := by
  unfold Lib.cut
  rw [Lib.index_one, byte_at 44 R A h, if_pos (by omega), Int.toNat_natCast]
  simp
theorem cut_none (A : List UInt8) (h : ∀ a ∈ A, a ≠ 44) : Lib.cut A [44] = (A, [], false) := by
  unfold Lib.cut
  rw [Lib.index_one, byte_no 44 A h, if_neg (by omega)]
theorem cutS_of (c d : UInt8) (hc : c = 91 ∨ c = 40) (hd : d = 93 ∨ d = 41) (M R : List UInt8) (hM : ∀ a ∈ M, a ≠ 93 ∧ a ≠ 41) (x y : List UInt8) (two : Bool) (hcut : Lib.cut M [44] = (x, y, two)) :
    cutS (c :: M ++ d :: R) = (⟨Lib.trimB x 32, Lib.trimB (if two then y else x) 32, c == 91, d == 93⟩, R, two || ((c == 91) && (d == 93))) := by
  have hi : Lib.indexAny (c :: M ++ d :: R) [93, 41] = ((c :: M).length : Nat) := any_at d hd R (c :: M) (by
    intro a ha
    rcases List.mem_cons.1 ha with rfl | ha
    · rcases hc with rfl | rfl <;> decide
    · exact hM a ha)
  have hm : midS (c :: M ++ d :: R) = M := by
    unfold midS
    rw [hi, Int.toNat_natCast, List.take_left']
    · rfl
    · rfl
  have hg : (c :: M ++ d :: R)[(c :: M).length]? = some d := by
    rw [List.getElem?_append_right (Nat.le_refl _), Nat.sub_self]; rfl
  have hok : cutOk (c :: M ++ d :: R) = true := by
    unfold cutOk
    rw [hi, decide_eq_true (by omega), Bool.and_true]
    show (c == 91 || c == 40) = true
    rcases hc with rfl | rfl <;> rfl
  have ho : oneS (c :: M ++ d :: R) = ⟨Lib.trimB x 32, Lib.trimB (if two then y else x) 32, c == 91, d == 93⟩ := by
    unfold oneS
    rw [hm, hcut, hi, Int.toNat_natCast, hg]
    rfl
  unfold cutS
  rw [if_pos hok, ho, hm, hcut, hi, Int.toNat_natCast]
  refine Prod.ext rfl (Prod.ext ?_ rfl)
  show (c :: M ++ d :: R).drop ((c :: M).length + 1) = R
  rw [List.drop_append]
  simp
theorem cutS_span (s : Sp) (R : List UInt8) (h1 : Cl s.lo) (h2 : Cl s.hi) : cutS (spanL s ++ R) = (s, R, true) := by
  obtain ⟨lo, hi, il, ih⟩ := s
  have t1 := trim_no lo fun c hc => (h1.2 c hc).1
  have t2 := trim_no hi fun c hc => (h2.2 c hc).1
  unfold spanL
  split
  · rename_i h
    obtain ⟨e1, e2, e3⟩ := h
    dsimp only at e1 e2 e3
    subst e1 e2 e3
    have := cutS_of 91 93 (.inl rfl) (.inl rfl) lo R (fun a ha => ⟨(h1.2 a ha).2.2.2, (h1.2 a ha).2.1⟩) lo [] false (cut_none lo fun a ha => (h1.2 a ha).2.2.1)
    simp only [Bool.false_eq_true, if_false, t1] at this
    have e : [91] ++ lo ++ [93] ++ R = 91 :: lo ++ 93 :: R := by simp
    dsimp only
    rw [e, this]
    rfl
  · have key : ∀ c d : UInt8, (c = 91 ∨ c = 40) → (d = 93 ∨ d = 41) → cutS (c :: (lo ++ 44 :: hi) ++ d :: R) = (⟨lo, hi, c == 91, d == 93⟩, R, true) := by
      intro c d hc hd
      have := cutS_of c d hc hd (lo ++ 44 :: hi) R (fun a ha => by
        rcases List.mem_append.1 ha with ha | ha
        · exact ⟨(h1.2 a ha).2.2.2, (h1.2 a ha).2.1⟩
        · rcases List.mem_cons.1 ha with rfl | ha
          · decide
          · exact ⟨(h2.2 a ha).2.2.2, (h2.2 a ha).2.1⟩) lo hi true (cut_two lo hi fun a ha => (h1.2 a ha).2.2.1)
      simp only [if_true, t1, t2, Bool.true_or] at this
      exact this
    dsimp only
    cases il <;> cases ih
    · have := key 40 41 (.inr rfl) (.inr rfl)
      simpa using this
    · have := key 40 93 (.inr rfl) (.inl rfl)
      simpa using this
    · have := key 91 41 (.inl rfl) (.inr rfl)
      simpa using this
    · have := key 91 93 (.inl rfl) (.inl rfl)
      simpa using this
/-- each may come behind those ahead of it -/
def Come : List Sp → List Sp → Prop
  | _, [] => True
  | acc, s :: l => comeB acc s = true ∧ Come (acc ++ [s]) l
theorem rangeL_cons (s : Sp) (l : List Sp) : rangeL (s :: l) = spanL s ++ rangeT l := by simp [rangeL, rangeT]
theorem rangeT_cons (s : Sp) (l : List Sp) : rangeT (s :: l) = 44 :: rangeL (s :: l) := by simp [rangeL, rangeT]
theorem parse_many : ∀ (l acc : List Sp) (f : Nat), l ≠ [] → (∀ s ∈ l, Cl s.lo ∧ Cl s.hi ∧ mayB s = true) → Come acc l → l.length ≤ f → parseF f acc (rangeL l) = some (acc ++ l)
  | [], _, _, h, _, _, _ => absurd rfl h
  | s :: l, acc, 0, _, _, _, hf => by simp at hf
  | s :: l, acc, f + 1, _, hl, hc, hf => by
    obtain ⟨c1, c2, hm⟩ := hl s List.mem_cons_self
    have hcut := cutS_span s (rangeT l) c1 c2
    rw [← rangeL_cons] at hcut
    have hg : goodS acc (rangeL (s :: l)) = true := by
      unfold goodS
      rw [hcut, hm, hc.1]; rfl
    cases l with
    | nil => rw [parse_end hg (by rw [hcut]; rfl), hcut]
    | cons t l =>
      rw [parse_on hg (by rw [hcut, rangeT_cons]) (by rfl), hcut]
      rw [parse_many (t :: l) (acc ++ [s]) f (by simp) (fun x hx => hl x (List.mem_cons_of_mem _ hx)) hc.2 (by simp at hf ⊢; omega)]
      simp
theorem spanL_pos (s : Sp) : 1 ≤ (spanL s).length := by
  unfold spanL
  split
  · simp
  · cases s.il <;> cases s.ih <;> simp
theorem rangeT_long : ∀ l : List Sp, l.length ≤ (rangeT l).length
  | [] => Nat.le_refl _
  | s :: l => by
    have ih := rangeT_long l
    have := spanL_pos s
    rw [rangeT_cons, rangeL_cons, List.length_cons, List.length_cons, List.length_append]
    omega
theorem range_long : ∀ l : List Sp, l.length ≤ (rangeL l).length + 1
  | [] => by simp
  | s :: l => by
    have ih := rangeT_long l
    have := spanL_pos s
    rw [rangeL_cons, List.length_cons, List.length_append]
    omega
/-- what is written is read -/
theorem parse_back (l : List Sp) (h0 : l ≠ []) (hl : ∀ s ∈ l, Cl s.lo ∧ Cl s.hi ∧ mayB s = true) (hc : Come [] l) : parseL (rangeL l) = some l := by
  unfold parseL
  rw [parse_many l [] _ h0 hl hc (range_long l)]
  rfl
theorem dec_right (v : Nat) : rightV (decF 9 v) = true := by
  have h1 := decF_le 9 v
  have h2 := List.length_pos_iff.2 (decF_ne 9 v (by decide))
  have h3 := decF_dig 9 v
  generalize decF 9 v = l at *
  unfold rightV
  rw [decide_eq_true (by omega), decide_eq_true (by omega), Bool.true_and, Bool.true_and, List.all_eq_true]
  intro c hc
  have := h3 c hc
  unfold may8 mayV
  simp
  omega
/-- a span of two numbers -/
def nSp (a b : Nat) (p q : Bool) : Sp := ⟨decF 9 a, decF 9 b, p, q⟩
theorem above_num (v u : Nat) (q : Bool) (hv : v < 10 ^ 9) (hu : u < 10 ^ 9) : aboveB (decF 9 v) (decF 9 u) q = decide (u < v ∨ u = v ∧ q = true) := by
  unfold aboveB
  rw [num_cmp v u hv hu]
  rcases Nat.lt_trichotomy u v with h | h | h
  · rw [ci_gt (by omega), decide_eq_true (p := u < v ∨ u = v ∧ q = true) (Or.inl h)]; rfl
  · rw [ci_eq (by omega)]
    cases q <;> simp [h]
  · rw [ci_lt (by omega), decide_eq_false (p := u < v ∨ u = v ∧ q = true) (by omega)]; rfl
theorem nSp_may (a b : Nat) (p q : Bool) (ha : a < 10 ^ 9) (hb : b < 10 ^ 9) (h : a < b ∨ a = b ∧ p = true ∧ q = true) : mayB (nSp a b p q) = true := by
  unfold mayB nSp
  have e : ∀ v i, boundB (decF 9 v) i = true := fun v i => by unfold boundB; rw [dec_right]; simp
  dsimp only
  rw [e, e, above_num b a _ hb ha, decide_eq_true (p := a < b ∨ a = b ∧ (p && q) = true) (by
    rcases h with h | ⟨h, h2, h3⟩
    · exact Or.inl h
    · exact Or.inr ⟨h, by rw [h2, h3]; rfl⟩)]
  simp
theorem nSp_holds (a b n : Nat) (p q : Bool) (ha : a < 10 ^ 9) (hb : b < 10 ^ 9) (hn : n < 10 ^ 9) : withinB (nSp a b p q) (decF 9 n) = (decide (a < n ∨ a = n ∧ p = true) && decide (n < b ∨ n = b ∧ q = true)) := by
  unfold withinB nSp
  dsimp only
  rw [nil_beq _ (decF_ne 9 a (by decide)), nil_beq _ (decF_ne 9 b (by decide)), Bool.false_or, Bool.false_or, above_num n a p hn ha, above_num b n q hb hn]
theorem nSp_cl (a b : Nat) (p q : Bool) : Cl (nSp a b p q).lo ∧ Cl (nSp a b p q).hi := ⟨dec_cl a, dec_cl b⟩
theorem parse_one (a b : Nat) (p q : Bool) (ha : a < 10 ^ 9) (hb : b < 10 ^ 9) (h : a < b ∨ a = b ∧ p = true ∧ q = true) : parseL (rangeL [nSp a b p q]) = some [nSp a b p q] := by
  refine parse_back _ (by simp) ?_ ⟨rfl, trivial⟩
  intro s hs
  rw [List.mem_singleton.1 hs]
  exact ⟨(nSp_cl a b p q).1, (nSp_cl a b p q).2, nSp_may a b p q ha hb h⟩
end Nwl
