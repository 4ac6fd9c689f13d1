/-
  Plain facts on ranges of versions (layer 7): nothing of the program.
-/
import Derived.Test.YtjmjklmndokdiaaDoorBa
import Derived.Lib.IndexAny
import Derived.Lib.IndexMore
import Derived.Lib.TrimByte
namespace Nwl
open Go
set_option linter.unusedSimpArgs false
set_option linter.unusedVariables false

/-- a span -/
structure Sp where
  lo : List UInt8
  hi : List UInt8
  il : Bool
  ih : Bool
  deriving DecidableEq
/-- above, or the same where that is enough -/
def aboveB (v w : List UInt8) (same : Bool) : Bool := decide (0 < cmpV v w) || (cmpV v w == 0 && same)
def boundB (v : List UInt8) (i : Bool) : Bool := (v == [] && !i) || rightV v
def mayB (s : Sp) : Bool := boundB s.lo s.il && boundB s.hi s.ih && (s.lo == [] || s.hi == [] || aboveB s.hi s.lo (s.il && s.ih))
def comeB (l : List Sp) (s : Sp) : Bool := match l.getLast? with
  | none => true
  | some x => !(l.length == 20 || x.hi == [] || s.lo == []) && aboveB s.lo x.hi (!x.ih || !s.il)
def withinB (s : Sp) (v : List UInt8) : Bool := (s.lo == [] || aboveB v s.lo s.il) && (s.hi == [] || aboveB s.hi v s.ih)
def holdsB (l : List Sp) (v : List UInt8) : Bool := l.any fun s => withinB s v
def spanL (s : Sp) : List UInt8 := if s.lo = s.hi ∧ s.il = true ∧ s.ih = true then [91] ++ s.lo ++ [93] else (if s.il then [91] else [40]) ++ s.lo ++ [44] ++ s.hi ++ (if s.ih then [93] else [41])
def rangeT (l : List Sp) : List UInt8 := l.flatMap fun s => 44 :: spanL s
def rangeL (l : List Sp) : List UInt8 := (rangeT l).drop 1
def isR (l : List UInt8) : Bool := match l with
  | [] => false
  | c :: _ => c == 91 || c == 40
def midS (s : List UInt8) : List UInt8 := (s.take (Lib.indexAny s [93, 41]).toNat).drop 1
def oneS (s : List UInt8) : Sp :=
  ⟨Lib.trimB (Lib.cut (midS s) [44]).1 32, Lib.trimB (if (Lib.cut (midS s) [44]).2.2 then (Lib.cut (midS s) [44]).2.1 else (Lib.cut (midS s) [44]).1) 32, s.head? == some 91, s[(Lib.indexAny s [93, 41]).toNat]? == some 93⟩
def cutOk (s : List UInt8) : Bool := isR s && decide (0 ≤ Lib.indexAny s [93, 41])
/-- the first span, as it is written; the rest; whether there is one -/
def cutS (s : List UInt8) : Sp × List UInt8 × Bool :=
  if cutOk s then (oneS s, s.drop ((Lib.indexAny s [93, 41]).toNat + 1), (Lib.cut (midS s) [44]).2.2 || ((oneS s).il && (oneS s).ih)) else (⟨[], [], false, false⟩, [], false)
def goodS (acc : List Sp) (s : List UInt8) : Bool := (cutS s).2.2 && mayB (cutS s).1 && comeB acc (cutS s).1
def parseF : Nat → List Sp → List UInt8 → Option (List Sp)
  | 0, _, _ => none
  | f + 1, acc, s => if goodS acc s then (match (cutS s).2.1 with
      | [] => some (acc ++ [(cutS s).1])
      | c :: r => if c == 44 then parseF f (acc ++ [(cutS s).1]) r else none) else none
def parseL (s : List UInt8) : Option (List Sp) := parseF (s.length + 1) [] s

/-- bounds -/
def tightS (a b : List UInt8 × Bool) (side : Int) : List UInt8 × Bool :=
  if a.1 = [] then b else if b.1 = [] then a else if side * cmpV a.1 b.1 = 1 then a else if side * cmpV a.1 b.1 = -1 then b else (a.1, a.2 && b.2)
def meetS (a b : Sp) : Sp := ⟨(tightS (a.lo, a.il) (b.lo, b.il) 1).1, (tightS (a.hi, a.ih) (b.hi, b.ih) (-1)).1, (tightS (a.lo, a.il) (b.lo, b.il) 1).2, (tightS (a.hi, a.ih) (b.hi, b.ih) (-1)).2⟩
def bothO (s : Sp) (y : List Sp) : List Sp := (y.map (meetS s)).filter mayB
def bothL (x y : List Sp) : List Sp := x.flatMap fun s => bothO s y

theorem above_ord {v w : List UInt8} {q : Bool} : aboveB v w q = true ↔ 0 < cmpV v w ∨ cmpV v w = 0 ∧ q = true := by
  unfold aboveB
  rw [Bool.or_eq_true, decide_eq_true_eq, Bool.and_eq_true, beq_iff_eq]
def lowB (b : List UInt8 × Bool) (v : List UInt8) : Bool := b.1 == [] || aboveB v b.1 b.2
def highB (b : List UInt8 × Bool) (v : List UInt8) : Bool := b.1 == [] || aboveB b.1 v b.2
theorem within_eq (s : Sp) (v : List UInt8) : withinB s v = (lowB (s.lo, s.il) v && highB (s.hi, s.ih) v) := rfl
theorem nil_beq (l : List UInt8) (h : l ≠ []) : (l == []) = false := by
  rw [beq_eq_false_iff_ne]; exact h
theorem low_tight (a b : List UInt8 × Bool) (v : List UInt8) : lowB (tightS a b 1) v = (lowB a v && lowB b v) := by
  obtain ⟨x, p⟩ := a
  obtain ⟨y, q⟩ := b
  unfold tightS
  by_cases hx : x = []
  · subst hx
    simp [lowB]
  · by_cases hy : y = []
    · subst hy
      simp [lowB, hx]
    · rw [if_neg hx, if_neg hy]
      unfold lowB
      rw [nil_beq x hx, nil_beq y hy, Bool.false_or, Bool.false_or]
      have s1 := ord_v.sgn x y
      have a1 := ord_v.anti x y
      have a2 := ord_v.anti v x
      have a3 := ord_v.anti v y
      have t1 := ord_v.trans v x y
      have t2 := ord_v.trans v y x
      have u1 := ord_v.lt_le (a := y) (b := x) (c := v)
      have u2 := ord_v.lt_le (a := x) (b := y) (c := v)
      have sv := ord_v.same (a := x) (b := y) v
      have s2 := ord_v.sgn v x
      have s3 := ord_v.sgn v y
      simp only [Int.one_mul]
      by_cases e1 : cmpV x y = 1
      · rw [if_pos e1]
        simp only [nil_beq x hx, Bool.false_or]
        rw [Bool.eq_iff_iff, Bool.and_eq_true, above_ord, above_ord]
        constructor
        · intro h
          refine ⟨h, ?_⟩
          left
          rcases h with h | ⟨h, _⟩
          · have := u1 (by omega) (by omega); omega
          · have := u1 (by omega) (by omega); omega
        · exact fun h => h.1
      · rw [if_neg e1]
        by_cases e2 : cmpV x y = -1
        · rw [if_pos e2]
          simp only [nil_beq y hy, Bool.false_or]
          rw [Bool.eq_iff_iff, Bool.and_eq_true, above_ord, above_ord]
          constructor
          · intro h
            refine ⟨?_, h⟩
            left
            rcases h with h | ⟨h, _⟩
            · have := u2 (by omega) (by omega); omega
            · have := u2 (by omega) (by omega); omega
          · exact fun h => h.2
        · rw [if_neg e2]
          simp only [nil_beq x hx, Bool.false_or]
          have e0 : cmpV x y = 0 := by omega
          have sv' := sv e0
          rw [Bool.eq_iff_iff, Bool.and_eq_true, above_ord, above_ord, above_ord, Bool.and_eq_true]
          have : cmpV v y = cmpV v x := by omega
          rw [this]
          constructor
          · rintro (h | ⟨h, h1, h2⟩)
            · exact ⟨.inl h, .inl h⟩
            · exact ⟨.inr ⟨h, h1⟩, .inr ⟨h, h2⟩⟩
          · rintro ⟨h1, h2⟩
            rcases h1 with h1 | ⟨h1, h3⟩
            · exact .inl h1
            · rcases h2 with h2 | ⟨h2, h4⟩
              · exact .inl h2
              · exact .inr ⟨h1, h3, h4⟩
theorem high_tight (a b : List UInt8 × Bool) (v : List UInt8) : highB (tightS a b (-1)) v = (highB a v && highB b v) := by
  obtain ⟨x, p⟩ := a
  obtain ⟨y, q⟩ := b
  unfold tightS
  by_cases hx : x = []
  · subst hx
    simp [highB]
  · by_cases hy : y = []
    · subst hy
      simp [highB, hx]
    · rw [if_neg hx, if_neg hy]
      unfold highB
      rw [nil_beq x hx, nil_beq y hy, Bool.false_or, Bool.false_or]
      have s1 := ord_v.sgn x y
      have a1 := ord_v.anti x y
      have a2 := ord_v.anti v x
      have a3 := ord_v.anti v y
      have u1 := ord_v.le_lt (a := v) (b := x) (c := y)
      have u2 := ord_v.le_lt (a := v) (b := y) (c := x)
      have sv := ord_v.same (a := x) (b := y) v
      simp only [Int.neg_mul, Int.one_mul]
      by_cases e1 : cmpV x y = -1
      · rw [if_pos (by omega)]
        simp only [nil_beq x hx, Bool.false_or]
        rw [Bool.eq_iff_iff, Bool.and_eq_true, above_ord, above_ord]
        constructor
        · intro h
          refine ⟨h, ?_⟩
          left
          rcases h with h | ⟨h, _⟩
          · have := u1 (by omega) (by omega); omega
          · have := u1 (by omega) (by omega); omega
        · exact fun h => h.1
      · rw [if_neg (by omega)]
        by_cases e2 : cmpV x y = 1
        · rw [if_pos (by omega)]
          simp only [nil_beq y hy, Bool.false_or]
          rw [Bool.eq_iff_iff, Bool.and_eq_true, above_ord, above_ord]
          constructor
          · intro h
            refine ⟨?_, h⟩
            left
            rcases h with h | ⟨h, _⟩
            · have := u2 (by omega) (by omega); omega
            · have := u2 (by omega) (by omega); omega
          · exact fun h => h.2
        · rw [if_neg (by omega)]
          simp only [nil_beq x hx, Bool.false_or]
          have e0 : cmpV x y = 0 := by omega
          have sv' := sv e0
          rw [Bool.eq_iff_iff, Bool.and_eq_true, above_ord, above_ord, above_ord, Bool.and_eq_true, ← sv']
          constructor
          · rintro (h | ⟨h, h1, h2⟩)
            · exact ⟨.inl h, .inl h⟩
            · exact ⟨.inr ⟨h, h1⟩, .inr ⟨h, h2⟩⟩
          · rintro ⟨h1, h2⟩
            rcases h1 with h1 | ⟨h1, h3⟩
            · exact .inl h1
            · rcases h2 with h2 | ⟨h2, h4⟩
              · exact .inl h2
              · exact .inr ⟨h1, h3, h4⟩
theorem within_meet (s t : Sp) (v : List UInt8) : withinB (meetS s t) v = (withinB s v && withinB t v) := by
  rw [within_eq, within_eq, within_eq]
  show (lowB (tightS (s.lo, s.il) (t.lo, t.il) 1) v && highB (tightS (s.hi, s.ih) (t.hi, t.ih) (-1)) v) = _
  rw [low_tight, high_tight]
  cases lowB (s.lo, s.il) v <;> cases lowB (t.lo, t.il) v <;> cases highB (s.hi, s.ih) v <;> cases highB (t.hi, t.ih) v <;> rfl
theorem bound_tight (a b : List UInt8 × Bool) (side : Int) (ha : boundB a.1 a.2 = true) (hb : boundB b.1 b.2 = true) : boundB (tightS a b side).1 (tightS a b side).2 = true := by
  unfold tightS
  by_cases h1 : a.1 = []
  · rw [if_pos h1]; exact hb
  · rw [if_neg h1]
    by_cases h2 : b.1 = []
    · rw [if_pos h2]; exact ha
    · rw [if_neg h2]
      split
      · exact ha
      · split
        · exact hb
        · unfold boundB at *
          rw [nil_beq _ h1, Bool.false_and, Bool.false_or] at ha
          simp only [ha, Bool.or_true]
theorem meet_none (s t : Sp) (v : List UInt8) (hs : mayB s = true) (ht : mayB t = true) (h : mayB (meetS s t) = false) : withinB (meetS s t) v = false := by
  have hs' := hs
  have ht' := ht
  unfold mayB at hs' ht'
  rw [Bool.and_eq_true, Bool.and_eq_true] at hs' ht'
  have b1 : boundB (meetS s t).lo (meetS s t).il = true := bound_tight (s.lo, s.il) (t.lo, t.il) 1 hs'.1.1 ht'.1.1
  have b2 : boundB (meetS s t).hi (meetS s t).ih = true := bound_tight (s.hi, s.ih) (t.hi, t.ih) (-1) hs'.1.2 ht'.1.2
  generalize meetS s t = m at *
  unfold mayB at h
  rw [b1, b2, Bool.true_and, Bool.true_and, Bool.or_eq_false_iff, Bool.or_eq_false_iff] at h
  obtain ⟨⟨h1, h2⟩, h3⟩ := h
  rw [Bool.eq_false_iff]
  intro hw
  unfold withinB at hw
  rw [h1, h2, Bool.false_or, Bool.false_or, Bool.and_eq_true, above_ord, above_ord] at hw
  refine Bool.eq_false_iff.1 h3 (above_ord.2 ?_)
  obtain ⟨w1, w2⟩ := hw
  have a1 := ord_v.anti v m.lo
  have a2 := ord_v.anti m.hi v
  have a3 := ord_v.anti m.hi m.lo
  have u1 := ord_v.lt_le (a := m.lo) (b := v) (c := m.hi)
  have u2 := ord_v.le_lt (a := m.lo) (b := v) (c := m.hi)
  have u3 := ord_v.trans m.lo v m.hi
  rw [Bool.and_eq_true]
  rcases w1 with w1 | ⟨w1, w3⟩
  · left
    have := u1 (by omega) (by omega)
    omega
  · rcases w2 with w2 | ⟨w2, w4⟩
    · left
      have := u2 (by omega) (by omega)
      omega
    · have := u3 (by omega) (by omega)
      have sg := ord_v.sgn m.hi m.lo
      rcases sg with sg | sg | sg
      · omega
      · exact .inr ⟨sg, w3, w4⟩
      · exact .inl (by omega)
theorem holds_bothO (s : Sp) (hs : mayB s = true) (v : List UInt8) : ∀ (y : List Sp), (∀ t ∈ y, mayB t = true) → holdsB (bothO s y) v = (withinB s v && holdsB y v)
  | [], _ => by simp [bothO, holdsB]
  | t :: y, h => by
    have ih := holds_bothO s hs v y fun t ht => h t (List.mem_cons_of_mem _ ht)
    have ht := h t List.mem_cons_self
    have e2 : holdsB (t :: y) v = (withinB t v || holdsB y v) := rfl
    cases hm : mayB (meetS s t) with
    | true =>
      have e1 : bothO s (t :: y) = meetS s t :: bothO s y := by
        unfold bothO
        rw [List.map_cons, List.filter_cons_of_pos hm]
      have e3 : holdsB (meetS s t :: bothO s y) v = (withinB (meetS s t) v || holdsB (bothO s y) v) := rfl
      rw [e1, e2, e3, ih, within_meet]
      cases withinB s v <;> rfl
    | false =>
      have e1 : bothO s (t :: y) = bothO s y := by
        unfold bothO
        rw [List.map_cons, List.filter_cons_of_neg (by rw [hm]; decide)]
      have hn := meet_none s t v hs ht hm
      rw [within_meet] at hn
      rw [e1, e2, ih]
      cases hx : withinB s v with
      | false => rfl
      | true =>
        rw [hx, Bool.true_and] at hn
        rw [hn]; rfl
/-- what both hold, Both holds, and nothing else -/
theorem holds_both (y : List Sp) (hy : ∀ t ∈ y, mayB t = true) (v : List UInt8) : ∀ (x : List Sp), (∀ t ∈ x, mayB t = true) → holdsB (bothL x y) v = (holdsB x v && holdsB y v)
  | [], _ => rfl
  | s :: x, h => by
    have ih := holds_both y hy v x fun t ht => h t (List.mem_cons_of_mem _ ht)
    have e1 : bothL (s :: x) y = bothO s y ++ bothL x y := by simp [bothL]
    have e2 : holdsB (s :: x) v = (withinB s v || holdsB x v) := rfl
    have e3 : holdsB (bothO s y ++ bothL x y) v = (holdsB (bothO s y) v || holdsB (bothL x y) v) := by simp [holdsB]
    rw [e1, e2, e3, ih, holds_bothO s (h s List.mem_cons_self) v y hy]
    cases withinB s v <;> cases holdsB y v <;> simp
theorem both_nil (x : List Sp) : bothL x [] = [] := by
  unfold bothL bothO
  rw [List.flatMap_eq_nil_iff]
  intro s _
  rfl
theorem both_may (x y : List Sp) : ∀ s ∈ bothL x y, mayB s = true := by
  intro s hs
  unfold bothL at hs
  rw [List.mem_flatMap] at hs
  obtain ⟨a, _, h⟩ := hs
  unfold bothO at h
  exact (List.mem_filter.1 h).2
end Nwl
