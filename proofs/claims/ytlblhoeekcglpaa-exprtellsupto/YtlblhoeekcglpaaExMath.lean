/-
  The pieces of a text with names in it (layer 10), on lists of bytes.
-/
import Derived.Test.YtlblhoeekcglpaaBa
import Derived.Lib.IndexMore
import Derived.Lib.IndexAny
import Derived.Lib.IndexLaws
import Derived.Lib.Strings
namespace Nwl
open Go
/-- a piece: a name, or a text -/
structure Pc where
  nm : Bool
  t : List UInt8
  deriving DecidableEq
/-- what may not stand in a name -/
def barB (b : UInt8) : Bool := b == 36 || b == 123 || b == 125
/-- does a name begin here? -/
def beginB : List UInt8 → Bool
  | a :: b :: _ => a == 36 && b == 123
  | _ => false
def hasE : List UInt8 → Bool
  | [] => false
  | a :: l => beginB (a :: l) || hasE l
/-- how far it is to the next name -/
def textN : List UInt8 → Nat
  | [] => 0
  | a :: l => if beginB (a :: l) then 0 else textN l + 1
/-- how many bytes of a name stand here -/
def nameN : List UInt8 → Nat
  | [] => 0
  | a :: l => if barB a then 0 else nameN l + 1
def nameOk (l : List UInt8) : Bool := decide (0 < nameN l) && (l[nameN l]? == some 125)
def cutP (l : List UInt8) : Option (Pc × List UInt8) :=
  if beginB l then
    if nameOk (l.drop 2) then some (⟨true, (l.drop 2).take (nameN (l.drop 2))⟩, (l.drop 2).drop (nameN (l.drop 2) + 1)) else none
  else some (⟨false, l.take (textN l)⟩, l.drop (textN l))
def pcsF : Nat → List UInt8 → Option (List Pc)
  | _, [] => some []
  | 0, _ :: _ => none
  | f + 1, a :: l => (cutP (a :: l)).bind fun x => (pcsF f x.2).map (x.1 :: ·)
def splitX (l : List UInt8) : Option (List Pc) := pcsF l.length l
def writE (p : Pc) : List UInt8 := if p.nm then 36 :: 123 :: (p.t ++ [125]) else p.t
def joinE (l : List Pc) : List UInt8 := l.flatMap writE

theorem hasE_cons (a : UInt8) (l : List UInt8) : hasE (a :: l) = (beginB (a :: l) || hasE l) := rfl
theorem textN_cons (a : UInt8) (l : List UInt8) : textN (a :: l) = if beginB (a :: l) then 0 else textN l + 1 := rfl
theorem nameN_cons (a : UInt8) (l : List UInt8) : nameN (a :: l) = if barB a then 0 else nameN l + 1 := rfl
theorem beginB_iff (l : List UInt8) : beginB l = true ↔ ∃ r, l = 36 :: 123 :: r := by
  constructor
  · intro h
    unfold beginB at h
    split at h
    · rename_i a b r
      rw [Bool.and_eq_true, beq_iff_eq, beq_iff_eq] at h
      obtain ⟨rfl, rfl⟩ := h
      exact ⟨r, rfl⟩
    · cases h
  · rintro ⟨r, rfl⟩; rfl
theorem textN_le : ∀ l : List UInt8, textN l ≤ l.length
  | [] => Nat.le_refl _
  | a :: l => by
    have := textN_le l
    unfold textN
    split
    · omega
    · simp; omega
theorem nameN_le : ∀ l : List UInt8, nameN l ≤ l.length
  | [] => Nat.le_refl _
  | a :: l => by
    have := nameN_le l
    unfold nameN
    split
    · omega
    · simp; omega
theorem textN_pos {a : UInt8} {l : List UInt8} (h : beginB (a :: l) = false) : 0 < textN (a :: l) := by
  unfold textN
  rw [if_neg (by rw [h]; decide)]
  omega
theorem nameOk_lt {l : List UInt8} (h : nameOk l = true) : nameN l < l.length ∧ 0 < nameN l ∧ l[nameN l]? = some 125 := by
  unfold nameOk at h
  rw [Bool.and_eq_true, decide_eq_true_eq, beq_iff_eq] at h
  exact ⟨(List.getElem?_eq_some_iff.1 h.2).1, h.1, h.2⟩
theorem cutE_join {l r : List UInt8} {p : Pc} (h : cutP l = some (p, r)) : writE p ++ r = l := by
  unfold cutP at h
  split at h
  · rename_i hb
    split at h
    · rename_i hn
      obtain ⟨r', rfl⟩ := (beginB_iff l).1 hb
      obtain ⟨h1, h2, h3⟩ := nameOk_lt hn
      injection h with h
      injection h with e1 e2
      subst e1 e2
      simp only [List.drop_succ_cons, List.drop_zero] at h1 h3 ⊢
      obtain ⟨_, h3⟩ := List.getElem?_eq_some_iff.1 h3
      have := List.take_append_getElem h1
      rw [h3] at this
      show 36 :: 123 :: (_ ++ [125]) ++ _ = _
      rw [this, List.cons_append, List.cons_append, List.take_append_drop]
    · cases h
  · injection h with h
    injection h with e1 e2
    subst e1 e2
    exact List.take_append_drop _ _
theorem writE_pos {a : UInt8} {l r : List UInt8} {p : Pc} (h : cutP (a :: l) = some (p, r)) : r.length < (a :: l).length := by
  have hj := cutE_join h
  have : 0 < (writE p).length := by
    unfold cutP at h
    split at h
    · split at h
      · injection h with h
        injection h with e1 e2
        subst e1
        simp [writE]
      · cases h
    · rename_i hb
      injection h with h
      injection h with e1 e2
      subst e1
      have := textN_pos (a := a) (l := l) (by simpa using hb)
      have := textN_le (a :: l)
      simp [writE, List.length_take]
      omega
  rw [← hj, List.length_append]
  omega
theorem pcsF_more : ∀ (f : Nat) (l : List UInt8), l.length ≤ f → pcsF f l = pcsF l.length l
  | _, [], _ => by cases ‹Nat› <;> rfl
  | 0, a :: l, h => by simp at h
  | f + 1, a :: l, h => by
    show (cutP (a :: l)).bind (fun x => (pcsF f x.2).map (x.1 :: ·)) = (cutP (a :: l)).bind fun x => (pcsF l.length x.2).map (x.1 :: ·)
    cases hc : cutP (a :: l) with
    | none => rfl
    | some x =>
      obtain ⟨p, r⟩ := x
      have hr := writE_pos hc
      simp only [List.length_cons] at hr h
      show (pcsF f r).map _ = (pcsF l.length r).map _
      rw [pcsF_more f r (by omega), pcsF_more l.length r (by omega)]
theorem splitX_nil : splitX [] = some [] := rfl
theorem splitX_step {l : List UInt8} (h : l ≠ []) : splitX l = (cutP l).bind fun x => (splitX x.2).map (x.1 :: ·) := by
  cases l with
  | nil => exact absurd rfl h
  | cons a l =>
    show (cutP (a :: l)).bind (fun x => (pcsF l.length x.2).map (x.1 :: ·)) = _
    cases hc : cutP (a :: l) with
    | none => rfl
    | some x =>
      obtain ⟨p, r⟩ := x
      have hr := writE_pos hc
      simp only [List.length_cons] at hr
      show (pcsF l.length r).map _ = (splitX r).map _
      rw [pcsF_more l.length r (by omega)]; rfl
theorem pcs_join : ∀ (n : Nat) (l : List UInt8) (ps : List Pc), l.length ≤ n → splitX l = some ps → joinE ps = l
  | _, [], ps, _, h => by
    rw [splitX_nil] at h
    injection h with h
    subst h; rfl
  | 0, a :: l, ps, hn, h => by simp at hn
  | n + 1, a :: l, ps, hn, h => by
    rw [splitX_step (by simp)] at h
    cases hc : cutP (a :: l) with
    | none => rw [hc] at h; cases h
    | some x =>
      obtain ⟨p, r⟩ := x
      rw [hc] at h
      have hr := writE_pos hc
      change (splitX r).map (p :: ·) = some ps at h
      cases hs : splitX r with
      | none => rw [hs] at h; cases h
      | some qs =>
        rw [hs] at h
        injection h with h
        subst h
        have := pcs_join n r qs (by simp only [List.length_cons] at hr hn; omega) hs
        show writE p ++ joinE qs = _
        rw [this, cutE_join hc]
theorem pcs_pos {l : List UInt8} (h : l ≠ []) {ps : List Pc} (hs : splitX l = some ps) : 0 < ps.length := by
  rw [splitX_step h] at hs
  cases hc : cutP l with
  | none => rw [hc] at hs; cases hs
  | some x =>
    rw [hc] at hs
    change (splitX x.2).map (x.1 :: ·) = some ps at hs
    cases hr : splitX x.2 with
    | none => rw [hr] at hs; cases hs
    | some qs =>
      rw [hr] at hs
      injection hs with hs
      subst hs; simp
theorem textN_no : ∀ {l : List UInt8}, hasE l = false → textN l = l.length
  | [], _ => rfl
  | a :: l, h => by
    unfold hasE at h
    rw [Bool.or_eq_false_iff] at h
    unfold textN
    rw [if_neg (by rw [h.1]; decide), textN_no h.2]; rfl
theorem begin_has {l : List UInt8} (h : beginB l = true) : hasE l = true := by
  obtain ⟨r, rfl⟩ := (beginB_iff l).1 h; rfl
theorem pcs_no {l : List UInt8} (h : hasE l = false) (hl : l ≠ []) : splitX l = some [⟨false, l⟩] := by
  rw [splitX_step hl]
  have hb : beginB l = false := by
    cases e : beginB l with
    | false => rfl
    | true => rw [begin_has e] at h; cases h
  unfold cutP
  rw [if_neg (by rw [hb]; decide), textN_no h, List.take_length, List.drop_length]
  rfl
theorem nameN_app : ∀ {t : List UInt8} (r : List UInt8), t.all (fun b => !barB b) = true → nameN (t ++ r) = t.length + nameN r
  | [], r, _ => by simp
  | a :: t, r, h => by
    rw [List.all_cons, Bool.and_eq_true, Bool.not_eq_true'] at h
    show (if barB a then 0 else nameN (t ++ r) + 1) = _
    rw [if_neg (by rw [h.1]; decide), nameN_app r h.2, List.length_cons]
    omega
theorem cutp_name {t : List UInt8} (r : List UInt8) (h : t.all (fun b => !barB b) = true) (ht : t ≠ []) : cutP (36 :: 123 :: (t ++ 125 :: r)) = some (⟨true, t⟩, r) := by
  have hn : nameN (t ++ 125 :: r) = t.length := by
    rw [nameN_app _ h]; rfl
  have hpos : 0 < t.length := List.length_pos_iff.2 ht
  have hok : nameOk (t ++ 125 :: r) = true := by
    unfold nameOk
    rw [hn, decide_eq_true hpos, List.getElem?_append_right (Nat.le_refl _), Nat.sub_self]; rfl
  unfold cutP
  rw [if_pos (show beginB (36 :: 123 :: (t ++ 125 :: r)) = true from rfl)]
  simp only [List.drop_succ_cons, List.drop_zero]
  rw [if_pos hok, hn, List.take_left', List.drop_append, List.drop_of_length_le (by omega)]
  · simp
  · rfl
theorem beginB_app {a : UInt8} {t : List UInt8} (r : List UInt8) (h : a ≠ 36) : beginB (a :: t ++ r) = false := by
  cases e : beginB (a :: t ++ r) with
  | false => rfl
  | true =>
    obtain ⟨r', hr⟩ := (beginB_iff _).1 e
    injection hr with h1 _
    exact absurd h1 h
theorem bar_dollar {a : UInt8} (h : barB a = false) : a ≠ 36 := by rintro rfl; revert h; decide
theorem textN_app : ∀ {t : List UInt8} {r : List UInt8}, t.all (fun b => !barB b) = true → (r = [] ∨ beginB r = true) → textN (t ++ r) = t.length
  | [], r, _, hr => by
    rcases hr with rfl | hr
    · rfl
    · obtain ⟨r', rfl⟩ := (beginB_iff r).1 hr; rfl
  | a :: t, r, h, hr => by
    rw [List.all_cons, Bool.and_eq_true, Bool.not_eq_true'] at h
    show (if beginB (a :: t ++ r) then 0 else textN (t ++ r) + 1) = _
    rw [beginB_app r (bar_dollar h.1), if_neg (by decide), textN_app h.2 hr]; rfl
theorem cutp_text {t r : List UInt8} (h : t.all (fun b => !barB b) = true) (ht : t ≠ []) (hr : r = [] ∨ beginB r = true) : cutP (t ++ r) = some (⟨false, t⟩, r) := by
  cases t with
  | nil => exact absurd rfl ht
  | cons a t =>
    have h' := h
    rw [List.all_cons, Bool.and_eq_true, Bool.not_eq_true'] at h'
    unfold cutP
    rw [beginB_app r (bar_dollar h'.1), if_neg (by decide), textN_app h hr, List.take_left', List.drop_left']
    · rfl
    · rfl
/-- pieces of plain bytes, no two texts beside each other -/
def okP : List Pc → Bool
  | [] => true
  | [p] => p.t.all (fun b => !barB b) && !p.t.isEmpty
  | p :: q :: l => (p.t.all (fun b => !barB b) && !p.t.isEmpty) && ((p.nm || q.nm) && okP (q :: l))
theorem okP_head {p : Pc} {l : List Pc} (h : okP (p :: l) = true) : p.t.all (fun b => !barB b) = true ∧ p.t ≠ [] ∧ okP l = true := by
  cases l with
  | nil =>
    unfold okP at h
    rw [Bool.and_eq_true, Bool.not_eq_true', List.isEmpty_eq_false_iff] at h
    exact ⟨h.1, h.2, rfl⟩
  | cons q l =>
    unfold okP at h
    rw [Bool.and_eq_true, Bool.and_eq_true, Bool.and_eq_true, Bool.not_eq_true', List.isEmpty_eq_false_iff] at h
    exact ⟨h.1.1, h.1.2, h.2.2⟩
theorem okP_next {p q : Pc} {l : List Pc} (h : okP (p :: q :: l) = true) : (p.nm || q.nm) = true := by
  unfold okP at h
  rw [Bool.and_eq_true] at h
  exact (Bool.and_eq_true _ _ ▸ h.2 : _ ∧ _).1
theorem pcs_app : ∀ (ps : List Pc) (rest : List UInt8), okP ps = true → (rest = [] ∨ beginB rest = true) → splitX (joinE ps ++ rest) = (splitX rest).map (ps ++ ·)
  | [], rest, _, _ => by
    show splitX rest = (splitX rest).map id
    rw [Option.map_id]; rfl
  | p :: ps, rest, h, hr => by
    obtain ⟨h1, h2, h3⟩ := okP_head h
    have ih := pcs_app ps rest h3 hr
    have hm : (splitX rest).map (p :: ps ++ ·) = ((splitX rest).map (ps ++ ·)).map (p :: ·) := by
      rw [Option.map_map]; rfl
    rw [hm, ← ih]
    obtain ⟨nm, t⟩ := p
    cases nm with
    | true =>
      have e : joinE (⟨true, t⟩ :: ps) ++ rest = 36 :: 123 :: (t ++ 125 :: (joinE ps ++ rest)) := by
        show (36 :: 123 :: (t ++ [125])) ++ joinE ps ++ rest = _
        simp
      rw [e, splitX_step (by simp), cutp_name _ h1 h2]; rfl
    | false =>
      have e : joinE (⟨false, t⟩ :: ps) ++ rest = t ++ (joinE ps ++ rest) := by
        show t ++ joinE ps ++ rest = _
        simp
      have hy : joinE ps ++ rest = [] ∨ beginB (joinE ps ++ rest) = true := by
        cases ps with
        | nil => simpa [joinE] using hr
        | cons q ps =>
          have hq := okP_next h
          obtain ⟨nq, tq⟩ := q
          simp only [Bool.false_or] at hq
          subst hq
          exact .inr rfl
      rw [e, splitX_step (by simp; intro h'; exact absurd h' h2), cutp_text h1 h2 hy]; rfl

/-- one more -/
def snocE (ps : List Pc) (b : Bool) (n : List UInt8) : List Pc :=
  if b then ps ++ [⟨true, n⟩] else match ps.getLast? with
    | some ⟨false, t⟩ => ps.dropLast ++ [⟨false, t ++ n⟩]
    | _ => ps ++ [⟨false, n⟩]
theorem okP_app : ∀ {ps : List Pc} {p : Pc}, okP ps = true → p.t.all (fun b => !barB b) = true → p.t ≠ [] → (∀ q, ps.getLast? = some q → (q.nm || p.nm) = true) → okP (ps ++ [p]) = true
  | [], p, _, h1, h2, _ => by
    show (p.t.all (fun b => !barB b) && !p.t.isEmpty) = true
    rw [h1]
    simpa using h2
  | [q], p, h, h1, h2, h3 => by
    obtain ⟨q1, q2, _⟩ := okP_head h
    have := h3 q rfl
    show ((q.t.all (fun b => !barB b) && !q.t.isEmpty) && ((q.nm || p.nm) && (p.t.all (fun b => !barB b) && !p.t.isEmpty))) = true
    rw [q1, this, h1]
    simp [q2, h2]
  | q :: r :: ps, p, h, h1, h2, h3 => by
    obtain ⟨q1, q2, q3⟩ := okP_head h
    have hn := okP_next h
    have ih := okP_app (ps := r :: ps) (p := p) q3 h1 h2 (fun x hx => h3 x (by rw [List.getLast?_cons_cons]; exact hx))
    show ((q.t.all (fun b => !barB b) && !q.t.isEmpty) && ((q.nm || r.nm) && okP (r :: ps ++ [p]))) = true
    rw [q1, hn, ih]
    simp [q2]
theorem snoc_ok {ps : List Pc} {b : Bool} {n : List UInt8} (h : okP ps = true) (h1 : n.all (fun b => !barB b) = true) (h2 : n ≠ []) : okP (snocE ps b n) = true := by
  unfold snocE
  split
  · exact okP_app h h1 h2 (fun q _ => by simp)
  · split
    · rename_i t hl
      obtain ⟨ys, hy⟩ := List.getLast?_eq_some_iff.1 hl
      subst hy
      rw [List.dropLast_concat]
      clear hl
      have hpre : ∀ (ys : List Pc) (p : Pc), okP (ys ++ [p]) = true → okP ys = true ∧ (p.t.all (fun b => !barB b) = true ∧ p.t ≠ []) ∧ ∀ q, ys.getLast? = some q → (q.nm || p.nm) = true := by
        intro ys
        induction ys with
        | nil =>
          intro p hp
          obtain ⟨a1, a2, _⟩ := okP_head hp
          exact ⟨rfl, ⟨a1, a2⟩, fun q hq => by cases hq⟩
        | cons a ys ih =>
          intro p hp
          cases ys with
          | nil =>
            obtain ⟨a1, a2, a3⟩ := okP_head hp
            obtain ⟨b1, b2, _⟩ := okP_head a3
            refine ⟨?_, ⟨b1, b2⟩, ?_⟩
            · show (a.t.all (fun b => !barB b) && !a.t.isEmpty) = true
              rw [a1]; simpa using a2
            · intro q hq
              cases hq
              exact okP_next hp
          | cons r ys =>
            obtain ⟨a1, a2, a3⟩ := okP_head hp
            obtain ⟨i1, i2, i3⟩ := ih p a3
            refine ⟨?_, i2, ?_⟩
            · show ((a.t.all (fun b => !barB b) && !a.t.isEmpty) && ((a.nm || r.nm) && okP (r :: ys))) = true
              rw [a1, okP_next hp, i1]; simpa using a2
            · intro q hq
              rw [List.getLast?_cons_cons] at hq
              exact i3 q hq
      obtain ⟨p1, ⟨p2, p3⟩, p4⟩ := hpre ys _ h
      refine okP_app p1 ?_ (by simp [h2]) p4
      simp only at p2 ⊢
      rw [List.all_append, p2, h1]; rfl
    · rename_i hno
      refine okP_app h h1 h2 fun q hq => ?_
      obtain ⟨nm, t⟩ := q
      cases nm with
      | true => rfl
      | false => exact absurd hq (hno t)
theorem snoc_join (ps : List Pc) (b : Bool) (n : List UInt8) : joinE (snocE ps b n) = joinE ps ++ writE ⟨b, n⟩ := by
  have hj : ∀ a b : List Pc, joinE (a ++ b) = joinE a ++ joinE b := fun a b => by simp [joinE]
  have h1 : ∀ p, joinE [p] = writE p := fun p => by simp [joinE]
  unfold snocE
  split
  · rename_i hb
    subst hb
    rw [hj, h1]
  · rename_i hb
    obtain rfl : b = false := by simpa using hb
    split
    · rename_i t hl
      obtain ⟨ys, hy⟩ := List.getLast?_eq_some_iff.1 hl
      subst hy
      rw [List.dropLast_concat, hj, hj, h1, h1]
      show _ ++ (t ++ n) = _ ++ t ++ n
      simp
    · rw [hj, h1]

/-! ### as the library tells it -/
theorem pre_begin (l : List UInt8) : Lib.hasPrefix l [36, 123] = beginB l := by
  unfold Lib.hasPrefix
  match l with
  | [] => rfl
  | [a] => simp [List.isPrefixOf, beginB]
  | a :: b :: l =>
    simp only [List.isPrefixOf, beginB, Bool.and_true]
    rw [Bool.eq_iff_iff, Bool.and_eq_true, Bool.and_eq_true, beq_iff_eq, beq_iff_eq, beq_iff_eq, beq_iff_eq]
    constructor <;> rintro ⟨h1, h2⟩ <;> exact ⟨h1.symm, h2.symm⟩
theorem trim_begin (l : List UInt8) : Lib.trimPrefix l [36, 123] = if beginB l then l.drop 2 else l := by
  unfold Lib.trimPrefix
  rw [pre_begin]
  rfl
theorem index_begin : ∀ l : List UInt8, Lib.index l [36, 123] = if hasE l then (textN l : Int) else -1
  | [] => rfl
  | a :: l => by
    have ih := index_begin l
    have hp : List.isPrefixOf [36, 123] (a :: l) = beginB (a :: l) := pre_begin (a :: l)
    rw [Lib.index, hp, ih, hasE_cons, textN_cons]
    cases hb : beginB (a :: l) with
    | true => simp
    | false =>
      simp only [Bool.false_eq_true, if_false, Bool.false_or]
      cases hh : hasE l with
      | true =>
        simp only [if_true]
        rw [if_neg (by rw [beq_iff_eq]; omega)]
        omega
      | false => simp
theorem contains_begin (l : List UInt8) : Lib.contains l [36, 123] = hasE l := by
  unfold Lib.contains
  rw [index_begin]
  cases hasE l with
  | true => simp
  | false => simp
theorem cut_begin (l : List UInt8) : (Lib.cut l [36, 123]).1 = l.take (textN l) := by
  unfold Lib.cut
  rw [index_begin]
  cases h : hasE l with
  | true => simp
  | false =>
    simp only [Bool.false_eq_true, if_false]
    rw [if_neg (by decide), textN_no h, List.take_length]
theorem any_name : ∀ l : List UInt8, Lib.indexAny l [36, 123, 125] = if nameN l < l.length then (nameN l : Int) else -1
  | [] => rfl
  | a :: l => by
    have ih := any_name l
    have hp : List.contains ([36, 123, 125] : List UInt8) a = barB a := by
      unfold barB
      rw [Bool.eq_iff_iff]
      simp
      constructor
      · rintro (h | h | h)
        · exact .inl (.inl h)
        · exact .inl (.inr h)
        · exact .inr h
      · rintro ((h | h) | h)
        · exact .inl h
        · exact .inr (.inl h)
        · exact .inr (.inr h)
    rw [Lib.indexAny, hp, ih, nameN_cons]
    cases hb : barB a with
    | true => simp
    | false =>
      simp only [Bool.false_eq_true, if_false, List.length_cons]
      by_cases h : nameN l < l.length
      · rw [if_pos h, if_neg (by rw [beq_iff_eq]; omega), if_pos (by omega)]
        omega
      · rw [if_neg h, if_pos (by rfl), if_neg (by omega)]
theorem nameOk_any {l : List UInt8} (h : nameOk l = false) : ¬ nameN l < l.length ∨ nameN l = 0 ∨ (nameN l < l.length ∧ l[nameN l]? ≠ some 125) := by
  unfold nameOk at h
  rw [Bool.and_eq_false_iff, decide_eq_false_iff_not, beq_eq_false_iff_ne] at h
  rcases h with h | h
  · exact .inr (.inl (by omega))
  · by_cases h' : nameN l < l.length
    · exact .inr (.inr ⟨h', h⟩)
    · exact .inl h'

/-! ### where a name begins in two that stand beside each other -/
theorem has_seam (a b : List UInt8) : hasE (a ++ b) = (hasE a || hasE b || (a.getLast? == some 36 && b.head? == some 123)) := by
  induction a with
  | nil => simp [hasE]
  | cons x a ih =>
    rw [List.cons_append]
    show (beginB (x :: (a ++ b)) || hasE (a ++ b)) = ((beginB (x :: a) || hasE a) || hasE b || _)
    rw [ih]
    cases a with
    | nil =>
      cases b with
      | nil => simp [hasE, beginB]
      | cons y b =>
        have e1 : beginB [x] = false := rfl
        have e2 : hasE [] = false := rfl
        have e3 : (([x] : List UInt8).getLast? == some 36) = (x == 36) := rfl
        have e4 : ((y :: b).head? == some 123) = (y == 123) := rfl
        have e5 : (([] : List UInt8).getLast? == some 36) = false := rfl
        rw [show beginB (x :: ([] ++ y :: b)) = (x == 36 && y == 123) from rfl, e1, e2, e3, e4, e5]
        generalize hasE (y :: b) = h
        cases (x == 36) <;> cases (y == 123) <;> cases h <;> rfl
    | cons y a =>
      have e : beginB (x :: (y :: a ++ b)) = beginB (x :: y :: a) := rfl
      rw [e, List.getLast?_cons_cons]
      cases beginB (x :: y :: a) <;> simp
theorem has_mid (a b : List UInt8) : hasE (a ++ 36 :: 123 :: b) = true := by
  rw [has_seam]
  have : hasE (36 :: 123 :: b) = true := rfl
  rw [this]; simp
end Nwl
