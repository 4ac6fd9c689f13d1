/-
  Plain facts on ranges of versions (layer 7): nothing of the program. Spans in memory (layer 7), and the small contracts of package span.
-/
import Derived.Test.YtkphkcpckgdgaaaGreatDoorBa
import Derived.Lib.IndexAny
import Derived.Lib.IndexMore
import Derived.Lib.TrimByte
import Derived.Test.YtkphkcpckgdgaaaGreatDoorBe
namespace Nwl
open Go
set_option linter.unusedSimpArgs false
set_option linter.unusedVariables false

/-- a span -/
structure Sp where
  lo : List UInt8
  hi : List UInt8
  il : Bool
  ih : Bool
  deriving DecidableEq
/-- above, or the same where that is enough -/
def aboveB (v w : List UInt8) (same : Bool) : Bool := decide (0 < cmpV v w) || (cmpV v w == 0 && same)
def boundB (v : List UInt8) (i : Bool) : Bool := (v == [] && !i) || rightV v
def mayB (s : Sp) : Bool := boundB s.lo s.il && boundB s.hi s.ih && (s.lo == [] || s.hi == [] || aboveB s.hi s.lo (s.il && s.ih))
def comeB (l : List Sp) (s : Sp) : Bool := match l.getLast? with
  | none => true
  | some x => !(l.length == 20 || x.hi == [] || s.lo == []) && aboveB s.lo x.hi (!x.ih || !s.il)
def withinB (s : Sp) (v : List UInt8) : Bool := (s.lo == [] || aboveB v s.lo s.il) && (s.hi == [] || aboveB s.hi v s.ih)
def holdsB (l : List Sp) (v : List UInt8) : Bool := l.any fun s => withinB s v
def spanL (s : Sp) : List UInt8 := if s.lo = s.hi ∧ s.il = true ∧ s.ih = true then [91] ++ s.lo ++ [93] else (if s.il then [91] else [40]) ++ s.lo ++ [44] ++ s.hi ++ (if s.ih then [93] else [41])
def rangeT (l : List Sp) : List UInt8 := l.flatMap fun s => 44 :: spanL s
def rangeL (l : List Sp) : List UInt8 := (rangeT l).drop 1
def isR (l : List UInt8) : Bool := match l with
  | [] => false
  | c :: _ => c == 91 || c == 40
def midS (s : List UInt8) : List UInt8 := (s.take (Lib.indexAny s [93, 41]).toNat).drop 1
def oneS (s : List UInt8) : Sp :=
  ⟨Lib.trimB (Lib.cut (midS s) [44]).1 32, Lib.trimB (if (Lib.cut (midS s) [44]).2.2 then (Lib.cut (midS s) [44]).2.1 else (Lib.cut (midS s) [44]).1) 32, s.head? == some 91, s[(Lib.indexAny s [93, 41]).toNat]? == some 93⟩
def cutOk (s : List UInt8) : Bool := isR s && decide (0 ≤ Lib.indexAny s [93, 41])
/-- the first span, as it is written; the rest; whether there is one -/
def cutS (s : List UInt8) : Sp × List UInt8 × Bool :=
  if cutOk s then (oneS s, s.drop ((Lib.indexAny s [93, 41]).toNat + 1), (Lib.cut (midS s) [44]).2.2 || ((oneS s).il && (oneS s).ih)) else (⟨[], [], false, false⟩, [], false)
def goodS (acc : List Sp) (s : List UInt8) : Bool := (cutS s).2.2 && mayB (cutS s).1 && comeB acc (cutS s).1
def parseF : Nat → List Sp → List UInt8 → Option (List Sp)
  | 0, _, _ => none
  | f + 1, acc, s => if goodS acc s then (match (cutS s).2.1 with
      | [] => some (acc ++ [(cutS s).1])
      | c :: r => if c == 44 then parseF f (acc ++ [(cutS s).1]) r else none) else none
def parseL (s : List UInt8) : Option (List Sp) := parseF (s.length + 1) [] s

/-- bounds -/
def tightS (a b : List UInt8 × Bool) (side : Int) : List UInt8 × Bool :=
  if a.1 = [] then b else if b.1 = [] then a else if side * cmpV a.1 b.1 = 1 then a else if side * cmpV a.1 b.1 = -1 then b else (a.1, a.2 && b.2)
def meetS (a b : Sp) : Sp := ⟨(tightS (a.lo, a.il) (b.lo, b.il) 1).1, (tightS (a.hi, a.ih) (b.hi, b.ih) (-1)).1, (tightS (a.lo, a.il) (b.lo, b.il) 1).2, (tightS (a.hi, a.ih) (b.hi, b.ih) (-1)).2⟩
def bothO (s : Sp) (y : List Sp) : List Sp := (y.map (meetS s)).filter mayB
def bothL (x y : List Sp) : List Sp := x.flatMap fun s => bothO s y

theorem above_ord {v w : List UInt8} {q : Bool} : aboveB v w q = true ↔ 0 < cmpV v w ∨ cmpV v w = 0 ∧ q = true := by
  unfold aboveB
  rw [Bool.or_eq_true, decide_eq_true_eq, Bool.and_eq_true, beq_iff_eq]
def lowB (b : List UInt8 × Bool) (v : List UInt8) : Bool := b.1 == [] || aboveB v b.1 b.2
def highB (b : List UInt8 × Bool) (v : List UInt8) : Bool := b.1 == [] || aboveB b.1 v b.2
theorem within_eq (s : Sp) (v : List UInt8) : withinB s v = (lowB (s.lo, s.il) v && highB (s.hi, s.ih) v) := rfl
theorem nil_beq (l : List UInt8) (h : l ≠ []) : (l == []) = false := by
  rw [beq_eq_false_iff_ne]; exact h
theorem low_tight (a b : List UInt8 × Bool) (v : List UInt8) : lowB (tightS a b 1) v = (lowB a v && lowB b v) := by
  obtain ⟨x, p⟩ := a
  obtain ⟨y, q⟩ := b
  unfold tightS
  by_cases hx : x = []
  · subst hx
    simp [lowB]
  · by_cases hy : y = []
    · subst hy
      simp [lowB, hx]
    · rw [if_neg hx, if_neg hy]
      unfold lowB
      rw [nil_beq x hx, nil_beq y hy, Bool.false_or, Bool.false_or]
      have s1 := ord_v.sgn x y
      have a1 := ord_v.anti x y
      have a2 := ord_v.anti v x
      have a3 := ord_v.anti v y
      have t1 := ord_v.trans v x y
      have t2 := ord_v.trans v y x
      have u1 := ord_v.lt_le (a := y) (b := x) (c := v)
      have u2 := ord_v.lt_le (a := x) (b := y) (c := v)
      have sv := ord_v.same (a := x) (b := y) v
      have s2 := ord_v.sgn v x
      have s3 := ord_v.sgn v y
      simp only [Int.one_mul]
      by_cases e1 : cmpV x y = 1
      · rw [if_pos e1]
        simp only [nil_beq x hx, Bool.false_or]
        rw [Bool.eq_iff_iff, Bool.and_eq_true, above_ord, above_ord]
        constructor
        · intro h
          refine ⟨h, ?_⟩
          left
          rcases h with h | ⟨h, _⟩
          · have := u1 (by omega) (by omega); omega
          · have := u1 (by omega) (by omega); omega
        · exact fun h => h.1
      · rw [if_neg e1]
        by_cases e2 : cmpV x y = -1
        · rw [if_pos e2]
          simp only [nil_beq y hy, Bool.false_or]
          rw [Bool.eq_iff_iff, Bool.and_eq_true, above_ord, above_ord]
          constructor
          · intro h
            refine ⟨?_, h⟩
            left
            rcases h with h | ⟨h, _⟩
            · have := u2 (by omega) (by omega); omega
            · have := u2 (by omega) (by omega); omega
          · exact fun h => h.2
        · rw [if_neg e2]
          simp only [nil_beq x hx, Bool.false_or]
          have e0 : cmpV x y = 0 := by omega
          have sv' := sv e0
          rw [Bool.eq_iff_iff, Bool.and_eq_true, above_ord, above_ord, above_ord, Bool.and_eq_true]
          have : cmpV v y = cmpV v x := by omega
          rw [this]
          constructor
          · rintro (h | ⟨h, h1, h2⟩)
            · exact ⟨.inl h, .inl h⟩
            · exact ⟨.inr ⟨h, h1⟩, .inr ⟨h, h2⟩⟩
          · rintro ⟨h1, h2⟩
            rcases h1 with h1 | ⟨h1, h3⟩
            · exact .inl h1
            · rcases h2 with h2 | ⟨h2, h4⟩
              · exact .inl h2
              · exact .inr ⟨h1, h3, h4⟩
theorem high_tight (a b : List UInt8 × Bool) (v : List UInt8) : highB (tightS a b (-1)) v = (highB a v && highB b v) := by
  obtain ⟨x, p⟩ := a
  obtain ⟨y, q⟩ := b
  unfold tightS
  by_cases hx : x = []
  · subst hx
    simp [highB]
  · by_cases hy : y = []
    · subst hy
      simp [highB, hx]
    · rw [if_neg hx, if_neg hy]
      unfold highB
      rw [nil_beq x hx, nil_beq y hy, Bool.false_or, Bool.false_or]
      have s1 := ord_v.sgn x y
      have a1 := ord_v.anti x y
      have a2 := ord_v.anti v x
      have a3 := ord_v.anti v y
      have u1 := ord_v.le_lt (a := v) (b := x) (c := y)
      have u2 := ord_v.le_lt (a := v) (b := y) (c := x)
      have sv := ord_v.same (a := x) (b := y) v
      simp only [Int.neg_mul, Int.one_mul]
      by_cases e1 : cmpV x y = -1
      · rw [if_pos (by omega)]
        simp only [nil_beq x hx, Bool.false_or]
        rw [Bool.eq_iff_iff, Bool.and_eq_true, above_ord, above_ord]
        constructor
        · intro h
          refine ⟨h, ?_⟩
          left
          rcases h with h | ⟨h, _⟩
          · have := u1 (by omega) (by omega); omega
          · have := u1 (by omega) (by omega); omega
        · exact fun h => h.1
      · rw [if_neg (by omega)]
        by_cases e2 : cmpV x y = 1
        · rw [if_pos (by omega)]
          simp only [nil_beq y hy, Bool.false_or]
          rw [Bool.eq_iff_iff, Bool.and_eq_true, above_ord, above_ord]
          constructor
          · intro h
            refine ⟨?_, h⟩
            left
            rcases h with h | ⟨h, _⟩
            · have := u2 (by omega) (by omega); omega
            · have := u2 (by omega) (by omega); omega
          · exact fun h => h.2
        · rw [if_neg (by omega)]
          simp only [nil_beq x hx, Bool.false_or]
          have e0 : cmpV x y = 0 := by omega
          have sv' := sv e0
          rw [Bool.eq_iff_iff, Bool.and_eq_true, above_ord, above_ord, above_ord, Bool.and_eq_true, ← sv']
          constructor
          · rintro (h | ⟨h, h1, h2⟩)
            · exact ⟨.inl h, .inl h⟩
            · exact ⟨.inr ⟨h, h1⟩, .inr ⟨h, h2⟩⟩
          · rintro ⟨h1, h2⟩
            rcases h1 with h1 | ⟨h1, h3⟩
            · exact .inl h1
            · rcases h2 with h2 | ⟨h2, h4⟩
              · exact .inl h2
              · exact .inr ⟨h1, h3, h4⟩
theorem within_meet (s t : Sp) (v : List UInt8) : withinB (meetS s t) v = (withinB s v && withinB t v) := by
  rw [within_eq, within_eq, within_eq]
  show (lowB (tightS (s.lo, s.il) (t.lo, t.il) 1) v && highB (tightS (s.hi, s.ih) (t.hi, t.ih) (-1)) v) = _
  rw [low_tight, high_tight]
  cases lowB (s.lo, s.il) v <;> cases lowB (t.lo, t.il) v <;> cases highB (s.hi, s.ih) v <;> cases highB (t.hi, t.ih) v <;> rfl
theorem bound_tight (a b : List UInt8 × Bool) (side : Int) (ha : boundB a.1 a.2 = true) (hb : boundB b.1 b.2 = true) : boundB (tightS a b side).1 (tightS a b side).2 = true := by
  unfold tightS
  by_cases h1 : a.1 = []
  · rw [if_pos h1]; exact hb
  · rw [if_neg h1]
    by_cases h2 : b.1 = []
    · rw [if_pos h2]; exact ha
    · rw [if_neg h2]
      split
      · exact ha
      · split
        · exact hb
        · unfold boundB at *
          rw [nil_beq _ h1, Bool.false_and, Bool.false_or] at ha
          simp only [ha, Bool.or_true]
theorem meet_none (s t : Sp) (v : List UInt8) (hs : mayB s = true) (ht : mayB t = true) (h : mayB (meetS s t) = false) : withinB (meetS s t) v = false := by
  have hs' := hs
  have ht' := ht
  unfold mayB at hs' ht'
  rw [Bool.and_eq_true, Bool.and_eq_true] at hs' ht'
  have b1 : boundB (meetS s t).lo (meetS s t).il = true := bound_tight (s.lo, s.il) (t.lo, t.il) 1 hs'.1.1 ht'.1.1
  have b2 : boundB (meetS s t).hi (meetS s t).ih = true := bound_tight (s.hi, s.ih) (t.hi, t.ih) (-1) hs'.1.2 ht'.1.2
  generalize meetS s t = m at *
  unfold mayB at h
  rw [b1, b2, Bool.true_and, Bool.true_and, Bool.or_eq_false_iff, Bool.or_eq_false_iff] at h
  obtain ⟨⟨h1, h2⟩, h3⟩ := h
  rw [Bool.eq_false_iff]
  intro hw
  unfold withinB at hw
  rw [h1, h2, Bool.false_or, Bool.false_or, Bool.and_eq_true, above_ord, above_ord] at hw
  refine Bool.eq_false_iff.1 h3 (above_ord.2 ?_)
  obtain ⟨w1, w2⟩ := hw
  have a1 := ord_v.anti v m.lo
  have a2 := ord_v.anti m.hi v
  have a3 := ord_v.anti m.hi m.lo
  have u1 := ord_v.lt_le (a := m.lo) (b := v) (c := m.hi)
  have u2 := ord_v.le_lt (a := m.lo) (b := v) (c := m.hi)
  have u3 := ord_v.trans m.lo v m.hi
  rw [Bool.and_eq_true]
  rcases w1 with w1 | ⟨w1, w3⟩
  · left
    have := u1 (by omega) (by omega)
    omega
  · rcases w2 with w2 | ⟨w2, w4⟩
    · left
      have := u2 (by omega) (by omega)
      omega
    · have := u3 (by omega) (by omega)
      have sg := ord_v.sgn m.hi m.lo
      rcases sg with sg | sg | sg
      · omega
      · exact .inr ⟨sg, w3, w4⟩
      · exact .inl (by omega)
theorem holds_bothO (s : Sp) (hs : mayB s = true) (v : List UInt8) : ∀ (y : List Sp), (∀ t ∈ y, mayB t = true) → holdsB (bothO s y) v = (withinB s v && holdsB y v)
  | [], _ => by simp [bothO, holdsB]
  | t :: y, h => by
    have ih := holds_bothO s hs v y fun t ht => h t (List.mem_cons_of_mem _ ht)
    have ht := h t List.mem_cons_self
    have e2 : holdsB (t :: y) v = (withinB t v || holdsB y v) := rfl
    cases hm : mayB (meetS s t) with
    | true =>
      have e1 : bothO s (t :: y) = meetS s t :: bothO s y := by
        unfold bothO
        rw [List.map_cons, List.filter_cons_of_pos hm]
      have e3 : holdsB (meetS s t :: bothO s y) v = (withinB (meetS s t) v || holdsB (bothO s y) v) := rfl
      rw [e1, e2, e3, ih, within_meet]
      cases withinB s v <;> rfl
    | false =>
      have e1 : bothO s (t :: y) = bothO s y := by
        unfold bothO
        rw [List.map_cons, List.filter_cons_of_neg (by rw [hm]; decide)]
      have hn := meet_none s t v hs ht hm
      rw [within_meet] at hn
      rw [e1, e2, ih]
      cases hx : withinB s v with
      | false => rfl
      | true =>
        rw [hx, Bool.true_and] at hn
        rw [hn]; rfl
/-- what both hold, Both holds, and nothing else -/
theorem holds_both (y : List Sp) (hy : ∀ t ∈ y, mayB t = true) (v : List UInt8) : ∀ (x : List Sp), (∀ t ∈ x, mayB t = true) → holdsB (bothL x y) v = (holdsB x v && holdsB y v)
  | [], _ => rfl
  | s :: x, h => by
    have ih := holds_both y hy v x fun t ht => h t (List.mem_cons_of_mem _ ht)
    have e1 : bothL (s :: x) y = bothO s y ++ bothL x y := by simp [bothL]
    have e2 : holdsB (s :: x) v = (withinB s v || holdsB x v) := rfl
    have e3 : holdsB (bothO s y ++ bothL x y) v = (holdsB (bothO s y) v || holdsB (bothL x y) v) := by simp [holdsB]
    rw [e1, e2, e3, ih, holds_bothO s (h s List.mem_cons_self) v y hy]
    cases withinB s v <;> cases holdsB y v <;> simp
theorem both_nil (x : List Sp) : bothL x [] = [] := by
  unfold bothL bothO
  rw [List.flatMap_eq_nil_iff]
  intro s _
  rfl
theorem both_may (x y : List Sp) : ∀ s ∈ bothL x y, mayB s = true := by
  intro s hs
  unfold bothL at hs
  rw [List.mem_flatMap] at hs
  obtain ⟨a, _, h⟩ := hs
  unfold bothO at h
  exact (List.mem_filter.1 h).2
end Nwl

namespace Nwl
theorem bs_nil {s : ByteArray} (h : s.size = 0) : bs s = [] := List.eq_nil_of_length_eq_zero (by rw [bs_length]; exact h)
theorem bs_hd {s : ByteArray} (h : 0 < s.size) : bs s = s[0] :: (bs s).drop 1 := by
  have := List.drop_eq_getElem_cons (l := bs s) (i := 0) (by rw [bs_length]; exact h)
  rw [List.drop_zero] at this
  exact this
theorem bs_beq_nil {s : ByteArray} (h : 0 < s.size) : (bs s == []) = false := by rw [bs_hd h]; rfl
end Nwl
namespace Go.Proofs.YtkphkcpckgdgaaaGreatDoor
open Nwl
open Go.RowKit Go.Maps
set_option linter.unusedVariables false

/-- a span as a value -/
abbrev spV (s : Sp) : Value := .agg #[.string (tx s.lo), .string (tx s.hi), .bool s.il, .bool s.ih]
/-- spans as cells -/
def spCells (l : List Sp) : List Value := l.flatMap fun s => [.string (tx s.lo), .string (tx s.hi), .bool s.il, .bool s.ih]
theorem spCells_cons (s : Sp) (l : List Sp) : spCells (s :: l) = .string (tx s.lo) :: .string (tx s.hi) :: .bool s.il :: .bool s.ih :: spCells l := rfl
theorem spCells_len : ∀ (l : List Sp), (spCells l).length = l.length * 4
  | [] => rfl
  | a :: l => by
    have := spCells_len l
    rw [spCells_cons, List.length_cons, List.length_cons, List.length_cons, List.length_cons, this, List.length_cons]
    omega
theorem spCells_app (a b : List Sp) : spCells (a ++ b) = spCells a ++ spCells b := by simp [spCells]
theorem spCells_get : ∀ (l : List Sp) (j : Nat) (h : j < l.length), (spCells l)[j * 4]? = some (.string (tx l[j].lo)) ∧ (spCells l)[j * 4 + 1]? = some (.string (tx l[j].hi)) ∧ (spCells l)[j * 4 + 2]? = some (.bool l[j].il) ∧ (spCells l)[j * 4 + 3]? = some (.bool l[j].ih)
  | a :: l, 0, h => ⟨rfl, rfl, rfl, rfl⟩
  | a :: l, j + 1, h => by
    have := spCells_get l j (by simpa using h)
    rw [spCells_cons]
    have e1 : (j + 1) * 4 = j * 4 + 1 + 1 + 1 + 1 := by omega
    rw [e1]
    simpa using this
theorem spCells_one : ∀ (l : List Sp), ∀ u ∈ spCells l, u.oneCell' = true
  | [], u, h => by simp [spCells] at h
  | a :: l, u, h => by
    rw [spCells_cons] at h
    simp at h
    rcases h with rfl | rfl | rfl | rfl | h
    · rfl
    · rfl
    · rfl
    · rfl
    · exact spCells_one l u h
/-- a row of spans that was made from block B on -/
def SpRow (B : Nat) (w : World) (A : Option Addr) (n c : Nat) (l : List Sp) : Prop := n = l.length ∧ w.ownsRow B 27 4 (.slice A n c) n (spCells l)
theorem SpRow.nil (B : Nat) (w : World) : SpRow B w none 0 0 [] := ⟨rfl, World.ownsRow_nil _ _ _ _⟩
theorem SpRow.below {B : Nat} {w w' : World} {A : Option Addr} {n c : Nat} {l : List Sp} (h : SpRow B w A n c l) (hb : Below w.heap.size w w') : SpRow B w' A n c l := by
  obtain ⟨hn, h⟩ := h
  refine ⟨hn, h.1, ?_⟩
  rcases h.2 with h0 | ⟨g, cap, cur, hv, hg, hh, hc, hx, hs, ht⟩
  · exact .inl h0
  · exact .inr ⟨g, cap, cur, hv, hg, (hb.block g (Array.getElem?_eq_some_iff.1 hh).1).trans hh, hc, hx, hs, ht⟩
/-- a row of spans that may be read, below block B -/
def SpR (B : Nat) (w : World) (A : Option Addr) (n : Nat) (l : List Sp) : Prop := n = l.length ∧ ∀ j (hj : j < l.length), ∃ g o, A = some ⟨g, o, none⟩ ∧ g < B ∧ w.cell? ⟨g, o + j * 4, none⟩ = some (.string (tx l[j].lo)) ∧ w.cell? ⟨g, o + j * 4 + 1, none⟩ = some (.string (tx l[j].hi)) ∧ w.cell? ⟨g, o + j * 4 + 2, none⟩ = some (.bool l[j].il) ∧ w.cell? ⟨g, o + j * 4 + 3, none⟩ = some (.bool l[j].ih)
theorem SpR.below {B : Nat} {w w' : World} {A : Option Addr} {n : Nat} {l : List Sp} (h : SpR B w A n l) (hb : Below B w w') : SpR B w' A n l := by
  refine ⟨h.1, fun j hj => ?_⟩
  obtain ⟨g, o, hA, hg, c0, c1, c2, c3⟩ := h.2 j hj
  exact ⟨g, o, hA, hg, (hb.cell (p := ⟨g, o + j * 4, none⟩) hg).trans c0, (hb.cell (p := ⟨g, o + j * 4 + 1, none⟩) hg).trans c1, (hb.cell (p := ⟨g, o + j * 4 + 2, none⟩) hg).trans c2, (hb.cell (p := ⟨g, o + j * 4 + 3, none⟩) hg).trans c3⟩
theorem SpR.mono {B B' : Nat} {w : World} {A : Option Addr} {n : Nat} {l : List Sp} (h : SpR B w A n l) (hb : B ≤ B') : SpR B' w A n l := by
  refine ⟨h.1, fun j hj => ?_⟩
  obtain ⟨g, o, hA, hg, c0⟩ := h.2 j hj
  exact ⟨g, o, hA, by omega, c0⟩
theorem SpR.on {B : Nat} {w w' : World} {A : Option Addr} {n : Nat} {l : List Sp} (h : SpR B w A n l) (hB : B ≤ w.heap.size) (hb : Below w.heap.size w w') : SpR B w' A n l := h.below (hb.mono hB)
theorem SpR.drew {B : Nat} {w : World} {A : Option Addr} {n : Nat} {l : List Sp} (h : SpR B w A n l) : SpR B w.drew A n l := h
theorem SpR.nil (B : Nat) (w : World) (A : Option Addr) : SpR B w A 0 [] := ⟨rfl, fun j hj => by simp at hj⟩
theorem SpRow.r {B : Nat} {w : World} {A : Option Addr} {n c : Nat} {l : List Sp} (h : SpRow B w A n c l) : SpR w.heap.size w A n l := by
  refine ⟨h.1, fun j hj => ?_⟩
  obtain ⟨hn, h0⟩ := h
  rcases h0.2 with ⟨hv, h1⟩ | ⟨g, cap, cur, hv, hg, hh, hc, hm, hs, ht⟩
  · omega
  · injection hv with e1 e2 e3
    subst e1 e3
    obtain ⟨q1, q2, q3, q4⟩ := spCells_get l j hj
    have r1 := h0.cells (g := g) rfl _ _ q1
    have r2 := h0.cells (g := g) rfl _ _ q2
    have r3 := h0.cells (g := g) rfl _ _ q3
    have r4 := h0.cells (g := g) rfl _ _ q4
    rw [addr_add0'] at r1 r2 r3 r4
    refine ⟨g, 0, rfl, (Array.getElem?_eq_some_iff.1 hh).1, ?_, ?_, ?_, ?_⟩
    · rw [Nat.zero_add]; exact r1
    · rw [Nat.zero_add]; exact r2
    · rw [Nat.zero_add]; exact r3
    · rw [Nat.zero_add]; exact r4
theorem SpR.blk {B g : Nat} {w : World} {l : List Sp} {cs : Array Value} (h : Blk w g 27 cs) (hB : g < B) (hc : cs.toList = spCells l) : SpR B w (some ⟨g, 0, none⟩) l.length l := by
  refine ⟨rfl, fun j hj => ?_⟩
  obtain ⟨q1, q2, q3, q4⟩ := spCells_get l j hj
  rw [← hc] at q1 q2 q3 q4
  refine ⟨g, 0, rfl, hB, ?_, ?_, ?_, ?_⟩
  · rw [Nat.zero_add]; exact (h.cell _).trans (by simpa using q1)
  · rw [Nat.zero_add]; exact (h.cell _).trans (by simpa using q2)
  · rw [Nat.zero_add]; exact (h.cell _).trans (by simpa using q3)
  · rw [Nat.zero_add]; exact (h.cell _).trans (by simpa using q4)
theorem info_sp : (Tryz.prog.info? 27).map (fun i => (i.zero, i.size, i.bytes)) = some (some (.agg #[.string ⟨#[]⟩, .string ⟨#[]⟩, .bool false, .bool false]), 4, 40) := by kernel_rfl
/-- spans of texts that are not too long -/
def SpShort (l : List Sp) : Prop := ∀ s ∈ l, s.lo.length ≤ 1000 ∧ s.hi.length ≤ 1000

set_option maxRecDepth 100000 in
theorem Is_c (s : ByteArray) (w : World) (r : Bool) (hr : isR (bs s) = r) :
    Calls Tryz.prog 16 #[.string s] w fun e w' => e = .returned (.bool r) ∧ w = w' := by
  by_cases h0 : s.size = 0
  · have he : s.toList = [] := toList_nil_of s h0
    have HR : Hid (false = r) := Lib.hid (by rw [← hr, bs_nil h0]; rfl)
    clear h0 hr
    go_enter Tryz.func16, Tryz.ntmps16
    go_wp2_with fail
    go_ret
    exact ⟨ret_bool HR.out, rfl⟩
  · have hs : 0 < s.size := by omega
    have hne : (s.toList == []) = false := by rw [toList_bs]; exact bs_beq_nil hs
    have hne2 : (s.toList != []) = true := by rw [bne, hne]; rfl
    have hr2 : ((s[0].toNat : Int) == 91 || (s[0].toNat : Int) == 40) = r := by
      rw [← hr, bs_hd hs]
      show _ = (s[0] == 91 || s[0] == 40)
      rw [Bool.eq_iff_iff]
      simp only [Bool.or_eq_true, beq_iff_eq, ← UInt8.toNat_inj]
      show (s[0].toNat : Int) = 91 ∨ (s[0].toNat : Int) = 40 ↔ s[0].toNat = 91 ∨ s[0].toNat = 40
      omega
    clear hr
    obtain ⟨c, hc⟩ : ∃ c, ((s[0].toNat : Int) == 91) = c := ⟨_, rfl⟩
    obtain ⟨d, hd⟩ : ∃ c, ((s[0].toNat : Int) == 40) = c := ⟨_, rfl⟩
    rw [hc, hd] at hr2
    have HR := Lib.hid hr2
    clear hr2
    cases c
    · go_enter Tryz.func16, Tryz.ntmps16
      go_wp2_with fail
      go_ret
      exact ⟨ret_bool HR.out, rfl⟩
    · go_enter Tryz.func16, Tryz.ntmps16
      go_wp2_with fail
      go_ret
      exact ⟨ret_bool (by have := HR.out; simpa using this), rfl⟩

set_option maxRecDepth 100000 in
theorem above_c (a b : ByteArray) (q : Bool) (w : World) (ha : a.size ≤ 1000) (hb : b.size ≤ 1000) (r : Bool) (hr : aboveB (bs a) (bs b) q = r) :
    Calls Tryz.prog 56 #[.string a, .string b, .bool q] w fun e w' => e = .returned (.bool r) ∧ Hid (Below w.heap.size w w') := by
  have s1 := ord_v.sgn (bs a) (bs b)
  obtain ⟨x, hx⟩ : ∃ x, cmpV (bs a) (bs b) = x := ⟨_, rfl⟩
  unfold aboveB at hr
  rw [hx] at s1 hr
  have HX := Lib.hid hx
  clear hx
  rcases s1 with rfl | rfl | rfl
  · obtain rfl : false = r := by rw [← hr]; rfl
    clear hr
    go_enter Tryz.func56, Tryz.ntmps56
    go_wp2_with fail
    refine (Compare_c a b _ ha hb _ HX.out).mono ?_
    rintro e w1 ⟨rfl, b1⟩
    go_wp2_with fail
    go_ret
    exact ⟨rfl, b1⟩
  · obtain rfl : q = r := by rw [← hr]; cases q <;> rfl
    clear hr
    go_enter Tryz.func56, Tryz.ntmps56
    go_wp2_with fail
    refine (Compare_c a b _ ha hb _ HX.out).mono ?_
    rintro e w1 ⟨rfl, b1⟩
    go_wp2_with fail
    go_ret
    exact ⟨rfl, b1⟩
  · obtain rfl : true = r := by rw [← hr]; rfl
    clear hr
    go_enter Tryz.func56, Tryz.ntmps56
    go_wp2_with fail
    refine (Compare_c a b _ ha hb _ HX.out).mono ?_
    rintro e w1 ⟨rfl, b1⟩
    go_wp2_with fail
    go_ret
    exact ⟨rfl, b1⟩

set_option maxRecDepth 100000 in
theorem bound_c (a : ByteArray) (i : Bool) (w : World) (ha : a.size ≤ maxLen) (r : Bool) (hr : boundB (bs a) i = r) :
    Calls Tryz.prog 64 #[.string a, .bool i] w fun e w' => e = .returned (.bool r) ∧ w = w' := by
  by_cases h0 : a.size = 0
  · have he : a.toList = [] := toList_nil_of a h0
    have hb0 := bs_nil h0
    unfold boundB at hr
    have hR : rightV (bs a) = false := by rw [hb0]; decide
    cases i
    · have HR : Hid (true = r) := Lib.hid (by rw [← hr, hb0]; rfl)
      clear h0 hr hR hb0
      go_enter Tryz.func64, Tryz.ntmps64
      go_wp2_with fail
      go_ret
      exact ⟨ret_bool HR.out, rfl⟩
    · have HR : Hid (false = r) := Lib.hid (by rw [← hr, hR]; simp)
      have HRR := Lib.hid hR
      clear h0 hr hb0 hR
      go_enter Tryz.func64, Tryz.ntmps64
      go_wp2_with fail
      refine (Right_b a _ ha false HRR.out).mono ?_
      rintro e w1 ⟨rfl, rfl⟩
      go_wp2_with fail
      go_ret
      exact ⟨ret_bool HR.out, rfl⟩
  · have hs : 0 < a.size := by omega
    have hne : (a.toList == []) = false := by rw [toList_bs]; exact bs_beq_nil hs
    have HR : Hid (rightV (bs a) = r) := Lib.hid (by rw [← hr]; unfold boundB; rw [bs_beq_nil hs]; rfl)
    clear hr
    go_enter Tryz.func64, Tryz.ntmps64
    go_wp2_with fail
    refine (Right_b a _ ha r HR.out).mono ?_
    rintro e w1 ⟨rfl, rfl⟩
    go_wp2_with fail
    go_ret
    exact ⟨rfl, rfl⟩

/-- the box of a span, as its fields are read -/
theorem box4 (w : World) (v0 v1 v2 v3 : Value) : (w.alloc (.cells #[v0, v1, v2, v3] 27)).cell? ⟨w.heap.size, 0, none⟩ = some v0 ∧ (w.alloc (.cells #[v0, v1, v2, v3] 27)).cell? ⟨w.heap.size, 1, none⟩ = some v1 ∧ (w.alloc (.cells #[v0, v1, v2, v3] 27)).cell? ⟨w.heap.size, 2, none⟩ = some v2 ∧ (w.alloc (.cells #[v0, v1, v2, v3] 27)).cell? ⟨w.heap.size, 3, none⟩ = some v3 :=
  ⟨(Blk.new w _ _).cell 0, (Blk.new w _ _).cell 1, (Blk.new w _ _).cell 2, (Blk.new w _ _).cell 3⟩
theorem may_cut {a b : ByteArray} {p q r : Bool} (hr : mayB ⟨bs a, bs b, p, q⟩ = r) : (boundB (bs a) p && boundB (bs b) q && (bs a == [] || bs b == [] || aboveB (bs b) (bs a) (p && q))) = r := hr

set_option maxRecDepth 100000 in
set_option maxHeartbeats 2000000 in
theorem mayBe_w (a b : ByteArray) (p q : Bool) (w : World) (ha : a.size ≤ 1000) (hb : b.size ≤ 1000) (r : Bool) (hr : mayB ⟨bs a, bs b, p, q⟩ = r) :
    Calls Tryz.prog 44 #[.agg #[.string a, .string b, .bool p, .bool q]] w fun e w' => e = .returned (.bool r) ∧ Hid (Below w.heap.size w w') := by
  have hr2 := may_cut hr
  clear hr
  have ha2 : a.size ≤ maxLen := by unfold maxLen; omega
  have hb2 : b.size ≤ maxLen := by unfold maxLen; omega
  have B0 : Hid (Below w.heap.size w (w.alloc (.cells #[.string a, .string b, .bool p, .bool q] 27))) := Lib.hid ((Below.refl _ _).alloc (Nat.le_refl _) _)
  obtain ⟨k0, k1, k2, k3⟩ := box4 w (.string a) (.string b) (.bool p) (.bool q)
  obtain ⟨x, hx⟩ : ∃ x, boundB (bs a) p = x := ⟨_, rfl⟩
  obtain ⟨y, hy⟩ : ∃ x, boundB (bs b) q = x := ⟨_, rfl⟩
  rw [hx, hy] at hr2
  have HX := Lib.hid hx
  have HY := Lib.hid hy
  clear hx hy
  cases x
  · obtain rfl : false = r := hr2
    go_enter Tryz.func44, Tryz.ntmps44
    go_wp2_with fail
    refine (bound_c a p _ ha2 _ HX.out).mono ?_
    rintro e w1 ⟨rfl, rfl⟩
    go_wp2_with fail
    go_ret
    exact ⟨rfl, B0⟩
  · cases y
    · obtain rfl : false = r := hr2
      go_enter Tryz.func44, Tryz.ntmps44
      go_wp2_with fail
      refine (bound_c a p _ ha2 _ HX.out).mono ?_
      rintro e w1 ⟨rfl, rfl⟩
      go_wp2_with fail
      refine (bound_c b q _ hb2 _ HY.out).mono ?_
      rintro e w1 ⟨rfl, rfl⟩
      go_wp2_with fail
      go_ret
      exact ⟨rfl, B0⟩
    · rw [Bool.true_and, Bool.true_and] at hr2
      by_cases h0 : a.size = 0
      · have he : a.toList = [] := toList_nil_of a h0
        obtain rfl : true = r := by rw [← hr2, bs_nil h0]; rfl
        clear h0 hr2
        go_enter Tryz.func44, Tryz.ntmps44
        go_wp2_with fail
        refine (bound_c a p _ ha2 _ HX.out).mono ?_
        rintro e w1 ⟨rfl, rfl⟩
        go_wp2_with fail
        refine (bound_c b q _ hb2 _ HY.out).mono ?_
        rintro e w1 ⟨rfl, rfl⟩
        go_wp2_with fail
        go_ret
        exact ⟨rfl, B0⟩
      · have hs : 0 < a.size := by omega
        have hne : (a.toList == []) = false := by rw [toList_bs]; exact bs_beq_nil hs
        rw [bs_beq_nil hs, Bool.false_or] at hr2
        by_cases h1 : b.size = 0
        · have he : b.toList = [] := toList_nil_of b h1
          obtain rfl : true = r := by rw [← hr2, bs_nil h1]; rfl
          clear h0 hr2 h1
          go_enter Tryz.func44, Tryz.ntmps44
          go_wp2_with fail
          refine (bound_c a p _ ha2 _ HX.out).mono ?_
          rintro e w1 ⟨rfl, rfl⟩
          go_wp2_with fail
          refine (bound_c b q _ hb2 _ HY.out).mono ?_
          rintro e w1 ⟨rfl, rfl⟩
          go_wp2_with fail
          go_ret
          exact ⟨rfl, B0⟩
        · have hs2 : 0 < b.size := by omega
          have hne2 : (b.toList == []) = false := by rw [toList_bs]; exact bs_beq_nil hs2
          rw [bs_beq_nil hs2, Bool.false_or] at hr2
          have HR := Lib.hid hr2
          clear hr2 h0 h1
          cases p
          · go_enter Tryz.func44, Tryz.ntmps44
            go_wp2_with fail
            refine (bound_c a false _ ha2 _ HX.out).mono ?_
            rintro e w1 ⟨rfl, rfl⟩
            go_wp2_with fail
            refine (bound_c b q _ hb2 _ HY.out).mono ?_
            rintro e w1 ⟨rfl, rfl⟩
            go_wp2_with fail
            refine (above_c b a false _ hb ha _ HR.out).mono ?_
            rintro e w1 ⟨rfl, b1⟩
            have B1 := Lib.hid (B0.out.trans (b1.out.mono B0.out.size))
            go_wp2_with fail
            go_ret
            exact ⟨rfl, B1⟩
          · go_enter Tryz.func44, Tryz.ntmps44
            go_wp2_with fail
            refine (bound_c a true _ ha2 _ HX.out).mono ?_
            rintro e w1 ⟨rfl, rfl⟩
            go_wp2_with fail
            refine (bound_c b q _ hb2 _ HY.out).mono ?_
            rintro e w1 ⟨rfl, rfl⟩
            go_wp2_with fail
            refine (above_c b a q _ hb ha _ HR.out).mono ?_
            rintro e w1 ⟨rfl, b1⟩
            have B1 := Lib.hid (B0.out.trans (b1.out.mono B0.out.size))
            go_wp2_with fail
            go_ret
            exact ⟨rfl, B1⟩

theorem mayBe_c (s : Sp) (w : World) (ha : s.lo.length ≤ 1000) (hb : s.hi.length ≤ 1000) (r : Bool) (hr : mayB s = r) :
    Calls Tryz.prog 44 #[spV s] w fun e w' => e = .returned (.bool r) ∧ Hid (Below w.heap.size w w') :=
  mayBe_w (tx s.lo) (tx s.hi) s.il s.ih w (by rw [tx_size]; exact ha) (by rw [tx_size]; exact hb) r (by rw [bs_tx, bs_tx]; exact hr)

set_option maxRecDepth 100000 in
set_option maxHeartbeats 2000000 in
theorem within_w (a b : ByteArray) (p q : Bool) (v : ByteArray) (w : World) (ha : a.size ≤ 1000) (hb : b.size ≤ 1000) (hv : v.size ≤ 1000) (r : Bool) (hr : withinB ⟨bs a, bs b, p, q⟩ (bs v) = r) :
    Calls Tryz.prog 39 #[.agg #[.string a, .string b, .bool p, .bool q], .string v] w fun e w' => e = .returned (.bool r) ∧ Hid (Below w.heap.size w w') := by
  have hr2 : ((bs a == [] || aboveB (bs v) (bs a) p) && (bs b == [] || aboveB (bs b) (bs v) q)) = r := hr
  clear hr
  have B0 : Hid (Below w.heap.size w (w.alloc (.cells #[.string a, .string b, .bool p, .bool q] 27))) := Lib.hid ((Below.refl _ _).alloc (Nat.le_refl _) _)
  have X0 := Blk.new w 27 #[.string a, .string b, .bool p, .bool q]
  have k0 := X0.cell 0
  have k1 := X0.cell 1
  have k2 := X0.cell 2
  have k3 := X0.cell 3
  simp at k0 k1 k2 k3
  obtain ⟨x, hx⟩ : ∃ x, aboveB (bs v) (bs a) p = x := ⟨_, rfl⟩
  obtain ⟨y, hy⟩ : ∃ x, aboveB (bs b) (bs v) q = x := ⟨_, rfl⟩
  rw [hx, hy] at hr2
  have HX := Lib.hid hx
  have HY := Lib.hid hy
  have HB := Lib.hid X0
  clear hx hy X0
  by_cases h0 : a.size = 0
  · have he : a.toList = [] := toList_nil_of a h0
    rw [bs_nil h0] at hr2
    clear h0
    by_cases h1 : b.size = 0
    · have he2 : b.toList = [] := toList_nil_of b h1
      rw [bs_nil h1] at hr2
      obtain rfl : true = r := hr2
      clear h1
      go_enter Tryz.func39, Tryz.ntmps39
      go_wp2_with fail
      go_ret
      exact ⟨rfl, B0⟩
    · have hs : 0 < b.size := by omega
      have hne : (b.toList == []) = false := by rw [toList_bs]; exact bs_beq_nil hs
      rw [bs_beq_nil hs] at hr2
      obtain rfl : y = r := hr2
      clear h1
      go_enter Tryz.func39, Tryz.ntmps39
      go_wp2_with fail
      refine (above_c b v q _ hb hv _ HY.out).mono ?_
      rintro e w1 ⟨rfl, b1⟩
      have B1 := Lib.hid (B0.out.trans (b1.out.mono B0.out.size))
      go_wp2_with fail
      go_ret
      exact ⟨rfl, B1⟩
  · have hs : 0 < a.size := by omega
    have hne : (a.toList == []) = false := by rw [toList_bs]; exact bs_beq_nil hs
    rw [bs_beq_nil hs] at hr2
    clear h0
    cases x
    · obtain rfl : false = r := hr2
      go_enter Tryz.func39, Tryz.ntmps39
      go_wp2_with fail
      refine (above_c v a p _ hv ha _ HX.out).mono ?_
      rintro e w1 ⟨rfl, b1⟩
      have B1 := Lib.hid (B0.out.trans (b1.out.mono B0.out.size))
      go_wp2_with fail
      go_ret
      exact ⟨rfl, B1⟩
    · rw [Bool.false_or, Bool.true_and] at hr2
      by_cases h1 : b.size = 0
      · have he2 : b.toList = [] := toList_nil_of b h1
        rw [bs_nil h1] at hr2
        obtain rfl : true = r := hr2
        clear h1
        go_enter Tryz.func39, Tryz.ntmps39
        go_wp2_with fail
        refine (above_c v a p _ hv ha _ HX.out).mono ?_
        rintro e w1 ⟨rfl, b1⟩
        have B1 := Lib.hid (B0.out.trans (b1.out.mono B0.out.size))
        have X1 := HB.out.below b1.out
        have j1 := X1.cell 1
        simp at j1
        clear X1
        go_wp2_with fail
        go_ret
        exact ⟨rfl, B1⟩
      · have hs : 0 < b.size := by omega
        have hne : (b.toList == []) = false := by rw [toList_bs]; exact bs_beq_nil hs
        rw [bs_beq_nil hs] at hr2
        obtain rfl : y = r := hr2
        clear h1
        go_enter Tryz.func39, Tryz.ntmps39
        go_wp2_with fail
        refine (above_c v a p _ hv ha _ HX.out).mono ?_
        rintro e w1 ⟨rfl, b1⟩
        have B1 := Lib.hid (B0.out.trans (b1.out.mono B0.out.size))
        have X1 := HB.out.below b1.out
        have j1 := X1.cell 1
        have j3 := X1.cell 3
        simp at j1 j3
        clear X1
        go_wp2_with fail
        refine (above_c b v q _ hb hv _ HY.out).mono ?_
        rintro e w2 ⟨rfl, b2⟩
        have B2 := Lib.hid (B1.out.trans (b2.out.mono B1.out.size))
        go_wp2_with fail
        go_ret
        exact ⟨rfl, B2⟩

theorem within_c (s : Sp) (v : ByteArray) (w : World) (ha : s.lo.length ≤ 1000) (hb : s.hi.length ≤ 1000) (hv : v.size ≤ 1000) (r : Bool) (hr : withinB s (bs v) = r) :
    Calls Tryz.prog 39 #[spV s, .string v] w fun e w' => e = .returned (.bool r) ∧ Hid (Below w.heap.size w w') :=
  within_w (tx s.lo) (tx s.hi) s.il s.ih v w (by rw [tx_size]; exact ha) (by rw [tx_size]; exact hb) hv r (by rw [bs_tx, bs_tx]; exact hr)
end Go.Proofs.YtkphkcpckgdgaaaGreatDoor
