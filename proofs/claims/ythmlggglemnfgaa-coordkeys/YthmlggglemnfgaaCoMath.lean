/-
  Plain facts on ids, coordinates and their texts (layer 9): nothing of the program.
-/
import Derived.Test.YthmlggglemnfgaaBa
import Derived.Lib.CutLaws
import Derived.Lib.IndexBytes
namespace Nwl
open Go
theorem all_of {p : UInt8 → Bool} {l : List UInt8} {k : Nat} (h : AllTo p l k) (hk : l.length ≤ k) : l.all p = true := by
  rw [List.all_eq_true]
  intro c hc
  obtain ⟨j, hj, rfl⟩ := List.mem_iff_getElem.1 hc
  exact h j hj (by omega)
theorem all_no {p : UInt8 → Bool} {l : List UInt8} {k : Nat} (hk : k < l.length) (h : p l[k] = false) : l.all p = false := by
  cases e : l.all p with
  | false => rfl
  | true =>
    rw [List.all_eq_true] at e
    have := e _ (List.getElem_mem hk)
    rw [h] at this
    cases this
def idI (c : Int) : Bool := letterI c || digitI c || c == 95 || c == 45 || c == 46
def id8 (c : UInt8) : Bool := idI c.toNat
def idL (l : List UInt8) : Bool := decide (1 ≤ l.length) && (decide (l.length ≤ 500) && l.all id8)
def IdTo (s : ByteArray) (k : Nat) : Prop := AllTo id8 (bs s) k
theorem idTo_start (s : ByteArray) : IdTo s 0 := allTo_zero _ _
theorem idTo_up (s : ByteArray) (k : Nat) (h : k < s.size) (ht : IdTo s k) (hc : idI s[k].toNat = true) : IdTo s (k + 1) := allTo_succ ht (by rw [bs_length]; exact h) hc
theorem id_short (s : ByteArray) (h : s.size = 0) : idL (bs s) = false := by
  unfold idL; rw [bs_length, h]; rfl
theorem id_long (s : ByteArray) (h : 500 < s.size) : idL (bs s) = false := by
  unfold idL; rw [bs_length, decide_eq_false (by omega : ¬ s.size ≤ 500)]; simp
theorem id_no (s : ByteArray) (k : Nat) (h : k < s.size) (hc : idI s[k].toNat = false) : idL (bs s) = false := by
  unfold idL
  rw [all_no (p := id8) (l := bs s) (k := k) (by rw [bs_length]; exact h) hc]; simp
theorem id_yes (s : ByteArray) (h1 : 1 ≤ s.size) (h2 : s.size ≤ 500) (ht : IdTo s s.size) : idL (bs s) = true := by
  unfold idL
  rw [all_of ht (by rw [bs_length]; exact Nat.le_refl _), bs_length, decide_eq_true h1, decide_eq_true h2]; rfl
/-- of a text all whose bytes may stand in an id -/
theorem id_len (s : ByteArray) (ht : IdTo s s.size) : idL (bs s) = (decide (1 ≤ s.size) && decide (s.size ≤ 500)) := by
  unfold idL
  rw [all_of ht (by rw [bs_length]; exact Nat.le_refl _), bs_length, Bool.and_true]
def colL (l : List UInt8) : Bool := l.any fun c => c == 58
def verL (l : List UInt8) : Bool := rightV l && !colL l
theorem colL_index : ∀ l : List UInt8, colL l = decide (0 ≤ Lib.indexByte l 58)
  | [] => rfl
  | c :: l => by
    have ih := colL_index l
    have hg := Lib.indexByte_ge l 58
    unfold colL at ih ⊢
    rw [List.any_cons, ih, Lib.indexByte]
    cases hc : (c == 58) with
    | true => simp
    | false =>
      by_cases h : Lib.indexByte l 58 = -1
      · rw [h]; rfl
      · have e : (Lib.indexByte l 58 == -1) = false := by rw [beq_eq_false_iff_ne]; exact h
        rw [e, Bool.false_or]
        simp only [Bool.false_eq_true, if_false]
        rw [decide_eq_true (by omega : 0 ≤ Lib.indexByte l 58), decide_eq_true (by omega)]
theorem colL_not {l : List UInt8} (h : colL l = false) : ∀ a ∈ l, a ≠ 58 := by
  intro a ha e
  subst e
  unfold colL at h
  rw [List.any_eq_false] at h
  exact h _ ha rfl
/-- no colon up to k -/
def ColTo (s : ByteArray) (k : Nat) : Prop := AllTo (fun c => !(c == 58)) (bs s) k
theorem colTo_start (s : ByteArray) : ColTo s 0 := allTo_zero _ _
theorem colTo_up (s : ByteArray) (k : Nat) (h : k < s.size) (ht : ColTo s k) (hc : ¬ s[k].toNat = 58) : ColTo s (k + 1) :=
  allTo_succ ht (by rw [bs_length]; exact h) (by
    show (!(s[k] == 58)) = true
    rw [Bool.not_eq_true', beq_eq_false_iff_ne]
    exact fun e => hc (by rw [e]; rfl))
theorem col_yes (s : ByteArray) (k : Nat) (h : k < s.size) (hc : s[k].toNat = 58) : colL (bs s) = true := by
  unfold colL
  rw [List.any_eq_true]
  exact ⟨s[k], (mem_bs s _).2 ⟨k, h, rfl⟩, by rw [beq_iff_eq, ← UInt8.toNat_inj, hc]; rfl⟩
theorem col_no (s : ByteArray) (ht : ColTo s s.size) : colL (bs s) = false := by
  have := all_of ht (by rw [bs_length]; exact Nat.le_refl _)
  unfold colL
  rw [List.any_eq_false]
  rw [List.all_eq_true] at this
  intro c hc
  have := this c hc
  simpa using this

structure Crd where
  g : List UInt8
  n : List UInt8
  v : List UInt8
  deriving DecidableEq
def coordL (c : Crd) : Bool := idL c.g && (idL c.n && verL c.v)
def textC (c : Crd) : List UInt8 := c.g ++ [58] ++ c.n ++ [58] ++ c.v
def cutC (l : List UInt8) : Crd := ⟨(Lib.cut l [58]).1, (Lib.cut (Lib.cut l [58]).2.1 [58]).1, (Lib.cut (Lib.cut l [58]).2.1 [58]).2.1⟩
/-- the coordinate whose text l is, and whether there is one -/
def parX (l : List UInt8) : Crd × Bool := if coordL (cutC l) then (cutC l, true) else (⟨[], [], []⟩, false)

theorem cut1 (l : List UInt8) : Lib.cut l [58] = if 0 ≤ Lib.indexByte l 58 then (l.take (Lib.indexByte l 58).toNat, l.drop ((Lib.indexByte l 58).toNat + 1), true) else (l, [], false) := by
  unfold Lib.cut; rw [Lib.index_one]; rfl
theorem cut1_nil : Lib.cut [] [58] = ([], [], false) := rfl
theorem cut1_hit (l : List UInt8) : Lib.cut (58 :: l) [58] = ([], l, true) := by
  rw [cut1, Lib.indexByte]; rfl
theorem cut1_cons (c : UInt8) (l : List UInt8) (h : c ≠ 58) : Lib.cut (c :: l) [58] = (c :: (Lib.cut l [58]).1, (Lib.cut l [58]).2.1, (Lib.cut l [58]).2.2) := by
  have hg := Lib.indexByte_ge l 58
  have hc : (c == 58) = false := by rw [beq_eq_false_iff_ne]; exact h
  rw [cut1, cut1, Lib.indexByte, hc]
  simp only [Bool.false_eq_true, if_false]
  by_cases h : Lib.indexByte l 58 = -1
  · rw [h]; rfl
  · have e : (Lib.indexByte l 58 == -1) = false := by rw [beq_eq_false_iff_ne]; exact h
    rw [e]
    simp only [Bool.false_eq_true, if_false]
    rw [if_pos (by omega), if_pos (by omega)]
    have e2 : (Lib.indexByte l 58 + 1).toNat = (Lib.indexByte l 58).toNat + 1 := by omega
    rw [e2]; rfl
theorem cut1_len : ∀ l : List UInt8, (Lib.cut l [58]).1.length ≤ l.length ∧ (Lib.cut l [58]).2.1.length ≤ l.length
  | [] => ⟨Nat.le_refl _, Nat.le_refl _⟩
  | c :: l => by
    have ih := cut1_len l
    by_cases h : c = 58
    · subst h
      rw [cut1_hit]
      exact ⟨Nat.zero_le _, Nat.le_succ _⟩
    · rw [cut1_cons c l h]
      exact ⟨Nat.succ_le_succ ih.1, Nat.le_succ_of_le ih.2⟩
theorem cut1_app : ∀ (a b : List UInt8), (∀ x ∈ a, x ≠ 58) → Lib.cut (a ++ 58 :: b) [58] = (a, b, true)
  | [], b, _ => cut1_hit b
  | c :: a, b, h => by
    rw [List.cons_append, cut1_cons c _ (h c (List.mem_cons_self ..)), cut1_app a b fun x hx => h x (List.mem_cons_of_mem _ hx)]
theorem cut1_join : ∀ l : List UInt8, (Lib.cut l [58]).2.2 = true → (Lib.cut l [58]).1 ++ 58 :: (Lib.cut l [58]).2.1 = l
  | [], h => by cases h
  | c :: l, h => by
    by_cases hc : c = 58
    · subst hc; rw [cut1_hit]; rfl
    · rw [cut1_cons c l hc] at h ⊢
      exact congrArg (c :: ·) (cut1_join l h)
theorem cut1_false : ∀ l : List UInt8, (Lib.cut l [58]).2.2 = false → (Lib.cut l [58]).2.1 = []
  | [], _ => rfl
  | c :: l, h => by
    by_cases hc : c = 58
    · subst hc; rw [cut1_hit] at h; cases h
    · rw [cut1_cons c l hc] at h ⊢
      exact cut1_false l h
theorem id_col {l : List UInt8} (h : idL l = true) : ∀ x ∈ l, x ≠ 58 := by
  unfold idL at h
  rw [Bool.and_eq_true, Bool.and_eq_true, List.all_eq_true] at h
  intro x hx e
  subst e
  have := h.2.2 _ hx
  revert this
  decide
theorem id_ne {l : List UInt8} (h : idL l = true) : l ≠ [] := by
  rintro rfl; revert h; decide
theorem ver_ne {l : List UInt8} (h : verL l = true) : l ≠ [] := by
  rintro rfl; revert h; decide
/-- what is told as text is parsed -/
theorem par_text (c : Crd) (h : coordL c = true) : parX (textC c) = (c, true) := by
  unfold coordL at h
  rw [Bool.and_eq_true, Bool.and_eq_true] at h
  have e : textC c = c.g ++ 58 :: (c.n ++ 58 :: c.v) := by unfold textC; simp
  have e1 := cut1_app c.g (c.n ++ 58 :: c.v) (id_col h.1)
  have e2 := cut1_app c.n c.v (id_col h.2.1)
  have e3 : cutC (textC c) = c := by unfold cutC; rw [e, e1, e2]
  unfold parX
  rw [e3, if_pos]
  unfold coordL
  rw [h.1, h.2.1, h.2.2]; rfl
/-- what is parsed is told so -/
theorem text_par (l : List UInt8) (h : coordL (cutC l) = true) : textC (cutC l) = l := by
  unfold coordL at h
  rw [Bool.and_eq_true, Bool.and_eq_true] at h
  have h2 : (Lib.cut (Lib.cut l [58]).2.1 [58]).2.2 = true := by
    cases e : (Lib.cut (Lib.cut l [58]).2.1 [58]).2.2 with
    | true => rfl
    | false => exact absurd (cut1_false _ e) (ver_ne h.2.2)
  have h1 : (Lib.cut l [58]).2.2 = true := by
    cases e : (Lib.cut l [58]).2.2 with
    | true => rfl
    | false =>
      have := cut1_false _ e
      rw [this] at h2
      cases h2
  have j1 := cut1_join _ h1
  have j2 := cut1_join _ h2
  unfold textC cutC
  rw [← j2] at j1
  simpa using j1

/-- the document's own parse: byte by byte into three places -/
def addAt (k : Nat) (c : Crd) (b : UInt8) : Crd := if k = 0 then { c with g := c.g ++ [b] } else if k = 1 then { c with n := c.n ++ [b] } else { c with v := c.v ++ [b] }
def pgo : List UInt8 → Nat → Crd → Nat × Crd
  | [], k, c => (k, c)
  | b :: r, k, c => if b = 58 ∧ k < 2 then pgo r (k + 1) c else pgo r k (addAt k c b)
theorem pgo2 : ∀ (l : List UInt8) (c : Crd), pgo l 2 c = (2, ⟨c.g, c.n, c.v ++ l⟩)
  | [], c => by rw [List.append_nil]; rfl
  | b :: r, c => by
    rw [pgo, if_neg (by omega), pgo2 r]
    simp [addAt]
theorem pgo1 : ∀ (l : List UInt8) (c : Crd), pgo l 1 c = if (Lib.cut l [58]).2.2 then (2, ⟨c.g, c.n ++ (Lib.cut l [58]).1, c.v ++ (Lib.cut l [58]).2.1⟩) else (1, ⟨c.g, c.n ++ l, c.v⟩)
  | [], c => by rw [cut1_nil, List.append_nil]; rfl
  | b :: r, c => by
    by_cases h : b = 58
    · subst h
      rw [pgo, if_pos ⟨rfl, by omega⟩, pgo2, cut1_hit]
      simp
    · rw [pgo, if_neg (fun hh => h hh.1), pgo1 r, cut1_cons b r h]
      dsimp only
      split <;> simp [addAt]
theorem pgo0 : ∀ (l : List UInt8) (c : Crd), pgo l 0 c = if (Lib.cut l [58]).2.2 then pgo (Lib.cut l [58]).2.1 1 ⟨c.g ++ (Lib.cut l [58]).1, c.n, c.v⟩ else (0, ⟨c.g ++ l, c.n, c.v⟩)
  | [], c => by rw [cut1_nil, List.append_nil]; rfl
  | b :: r, c => by
    by_cases h : b = 58
    · subst h
      rw [pgo, if_pos ⟨rfl, by omega⟩, cut1_hit]
      simp
    · rw [pgo, if_neg (fun hh => h hh.1), pgo0 r, cut1_cons b r h]
      dsimp only
      split <;> simp [addAt]
theorem pgo_par (l : List UInt8) (k : Nat) (c : Crd) (h : pgo l 0 ⟨[], [], []⟩ = (k, c)) : parX l = if k = 2 ∧ coordL c = true then (c, true) else (⟨[], [], []⟩, false) := by
  rw [pgo0] at h
  unfold parX
  cases e1 : (Lib.cut l [58]).2.2 with
  | false =>
    rw [e1] at h
    simp only [Bool.false_eq_true, if_false] at h
    injection h with h1 h2
    rw [if_neg (c := k = 2 ∧ coordL c = true) (by omega), if_neg]
    intro hc
    unfold coordL cutC at hc
    rw [cut1_false _ e1] at hc
    rw [Bool.and_eq_true, Bool.and_eq_true] at hc
    exact id_ne hc.2.1 rfl
  | true =>
    rw [e1, if_pos rfl, pgo1] at h
    cases e2 : (Lib.cut (Lib.cut l [58]).2.1 [58]).2.2 with
    | false =>
      rw [e2] at h
      simp only [Bool.false_eq_true, if_false] at h
      injection h with h1 h2
      rw [if_neg (c := k = 2 ∧ coordL c = true) (by omega), if_neg]
      intro hc
      unfold coordL cutC at hc
      rw [cut1_false _ e2] at hc
      rw [Bool.and_eq_true, Bool.and_eq_true] at hc
      exact ver_ne hc.2.2 rfl
    | true =>
      rw [e2, if_pos rfl] at h
      injection h with h1 h2
      have h3 : c = cutC l := by rw [← h2]; rfl
      subst h3
      subst h1
      cases coordL (cutC l) <;> rfl
end Nwl
