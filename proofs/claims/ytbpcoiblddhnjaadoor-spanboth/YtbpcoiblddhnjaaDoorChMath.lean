/-
  Plain facts on bytes and texts (layer 1): nothing of the program.
-/
import Derived.Lib.Strings
namespace Nwl

/-- the value of a byte -/
def bI (c : UInt8) : Int := (c.toNat : Int)
def spaceI (c : Int) : Bool := c == 9 || c == 10 || c == 13 || c == 32
def allowedI (c : Int) : Bool := spaceI c || decide (32 < c)
def digitI (c : Int) : Bool := decide (48 ≤ c) && decide (c ≤ 57)
def upperI (c : Int) : Bool := decide (65 ≤ c) && decide (c ≤ 90)
def letterI (c : Int) : Bool := upperI c || (decide (97 ≤ c) && decide (c ≤ 122))
def beginI (c : Int) : Bool := letterI c || c == 95
def withinI (c : Int) : Bool := beginI c || digitI c || c == 45 || c == 46 || c == 58
def lowI (c : Int) : Int := if upperI c then c + 32 else c
def low8 (c : UInt8) : UInt8 := if upperI c.toNat then c + 32 else c

def space8 (c : UInt8) : Bool := spaceI c.toNat
def within8 (c : UInt8) : Bool := withinI c.toNat
def nameL : List UInt8 → Bool
  | [] => false
  | c :: r => beginI c.toNat && r.all within8
def trimL (l : List UInt8) : List UInt8 := ((l.dropWhile space8).reverse.dropWhile space8).reverse
def lowerL (l : List UInt8) : List UInt8 := l.map low8

/-- a text's bytes -/
def bs (s : ByteArray) : List UInt8 := s.data.toList
/-- a text of bytes -/
def tx (l : List UInt8) : ByteArray := ⟨l.toArray⟩
theorem bs_tx (l : List UInt8) : bs (tx l) = l := rfl
theorem tx_bs (s : ByteArray) : tx (bs s) = s := rfl
theorem bs_length (s : ByteArray) : (bs s).length = s.size := by simp [bs]
theorem tx_size (l : List UInt8) : (tx l).size = l.length := by simp [tx, ByteArray.size]
theorem tx_inj {a b : List UInt8} (h : tx a = tx b) : a = b := by
  have := congrArg bs h; simpa [bs_tx] using this

def nameB (s : ByteArray) : Bool := nameL (bs s)
def trimB (s : ByteArray) : ByteArray := tx (trimL (bs s))
def lowerB (s : ByteArray) : ByteArray := tx (lowerL (bs s))
def dropB (s : ByteArray) : ByteArray := tx ((bs s).dropWhile space8)
def chopB (s : ByteArray) : ByteArray := tx (((bs s).reverse.dropWhile space8).reverse)

theorem chop_drop (s : ByteArray) : chopB (dropB s) = trimB s := by
  simp [chopB, dropB, trimB, trimL, bs_tx]

theorem begin_within (c : Int) (h : beginI c = true) : withinI c = true := by simp [withinI, h]

theorem bs_get (s : ByteArray) (k : Nat) (h : k < s.size) : (bs s)[k]'(by rw [bs_length]; exact h) = s[k] := rfl
theorem mem_bs (s : ByteArray) (c : UInt8) : c ∈ bs s ↔ ∃ k, ∃ h : k < s.size, s[k] = c := by
  rw [List.mem_iff_getElem]
  constructor
  · rintro ⟨k, h, e⟩; exact ⟨k, by rw [← bs_length]; exact h, e⟩
  · rintro ⟨k, h, e⟩; exact ⟨k, by rw [bs_length]; exact h, e⟩

theorem cons_of_pos : ∀ (l : List UInt8) (h : 0 < l.length), l = l[0] :: l.drop 1
  | [], h => by simp at h
  | _ :: _, _ => rfl
theorem bs_cons (s : ByteArray) (h : 0 < s.size) : bs s = s[0] :: (bs s).drop 1 := cons_of_pos (bs s) (by rw [bs_length]; exact h)

/-- from 'a' up to k all bytes may stand within a name -/
def WithinTo (s : ByteArray) (a k : Nat) : Prop := ∀ j (hj : j < s.size), a ≤ j → j < k → withinI s[j].toNat = true
theorem withinTo_start (s : ByteArray) (a : Nat) : WithinTo s a a := fun j _ h1 h2 => by omega
theorem withinTo_succ (s : ByteArray) (a k : Nat) (hk : k < s.size) (h : WithinTo s a k) (hc : withinI s[k].toNat = true) : WithinTo s a (k + 1) := by
  intro j hj h1 h2
  by_cases e : j = k
  · subst e; exact hc
  · exact h j hj h1 (by omega)
theorem withinTo_end (s : ByteArray) (a k : Nat) (h : WithinTo s a k) (hk : s.size ≤ k) : WithinTo s a s.size :=
  fun j hj h1 _ => h j hj h1 (by omega)
theorem nameB_iff (s : ByteArray) : nameB s = true ↔ ∃ h : 0 < s.size, beginI s[0].toNat = true ∧ WithinTo s 1 s.size := by
  unfold nameB
  constructor
  · intro h
    have hpos : 0 < s.size := by
      rw [← bs_length]
      cases hl : bs s with
      | nil => rw [hl] at h; simp [nameL] at h
      | cons c r => simp
    refine ⟨hpos, ?_, ?_⟩
    · have e := bs_cons s hpos
      rw [e] at h
      simp only [nameL, Bool.and_eq_true] at h
      exact h.1
    · intro j hj h1 _
      have e := bs_cons s hpos
      rw [e] at h
      simp only [nameL, Bool.and_eq_true, List.all_eq_true] at h
      have hm : s[j] ∈ (bs s).drop 1 := by
        rw [List.mem_iff_getElem]
        refine ⟨j - 1, by rw [List.length_drop, bs_length]; omega, ?_⟩
        rw [List.getElem_drop]
        have : 1 + (j - 1) = j := by omega
        simp only [this]
        exact bs_get s j hj
      exact h.2 _ hm
  · rintro ⟨hpos, hb, hw⟩
    have e := bs_cons s hpos
    rw [e]
    simp only [nameL, Bool.and_eq_true, List.all_eq_true]
    refine ⟨hb, ?_⟩
    intro c hc
    rw [List.mem_iff_getElem] at hc
    obtain ⟨k, hk, rfl⟩ := hc
    rw [List.length_drop, bs_length] at hk
    rw [List.getElem_drop]
    exact hw (1 + k) (by omega) (by omega) (by omega)
theorem nameB_not {s : ByteArray} (h : ¬ ∃ h : 0 < s.size, beginI s[0].toNat = true ∧ WithinTo s 1 s.size) : nameB s = false := by
  cases e : nameB s with
  | false => rfl
  | true => exact absurd ((nameB_iff s).1 e) h

theorem bs_inj {a b : ByteArray} (h : bs a = bs b) : a = b := by rw [← tx_bs a, h, tx_bs]
theorem bs_ext {a b : ByteArray} : a = b ↔ bs a = bs b := ⟨fun h => by rw [h], bs_inj⟩
theorem bs_extract (s : ByteArray) (a b : Nat) : bs (s.extract a b) = ((bs s).drop a).take (b - a) := Go.Lib.extract_data s a b
theorem bs_from (s : ByteArray) (a : Nat) : bs (s.extract a s.size) = (bs s).drop a := by
  rw [bs_extract, List.take_of_length_le]; rw [List.length_drop, bs_length]; omega
theorem bs_upto (s : ByteArray) (b : Nat) : bs (s.extract 0 b) = (bs s).take b := by rw [bs_extract]; simp
theorem bs_append (a b : ByteArray) : bs (a ++ b) = bs a ++ bs b := by simp [bs]
theorem extract_size (s : ByteArray) (a b : Nat) (h : b ≤ s.size) : (s.extract a b).size = b - a := by
  rw [← bs_length, bs_extract, List.length_take, List.length_drop, bs_length]; omega

theorem dropWhile_drop (p : UInt8 → Bool) : ∀ (l : List UInt8) (k : Nat) (_ : ∀ j (hj : j < l.length), j < k → p l[j] = true) (_ : ∀ (hk : k < l.length), p l[k] = false), l.dropWhile p = l.drop k
  | [], k, _, _ => by simp
  | c :: r, 0, _, h2 => by
    have := h2 (by simp)
    simp only [List.getElem_cons_zero] at this
    simp [this]
  | c :: r, k + 1, h1, h2 => by
    have h0 := h1 0 (by simp) (by omega)
    simp only [List.getElem_cons_zero] at h0
    rw [List.dropWhile_cons, if_pos h0, List.drop_succ_cons]
    exact dropWhile_drop p r k (fun j hj h => by have := h1 (j + 1) (by simp; omega) (by omega); simpa using this) (fun hk => by have := h2 (by simp; omega); simpa using this)

/-- from 'a' up to k all bytes are Spaces -/
def SpaceTo (s : ByteArray) (a k : Nat) : Prop := ∀ j (hj : j < s.size), a ≤ j → j < k → spaceI s[j].toNat = true
theorem spaceTo_start (s : ByteArray) (a : Nat) : SpaceTo s a a := fun j _ h1 h2 => by omega
theorem spaceTo_up (s : ByteArray) (a k : Nat) (hk : k < s.size) (h : SpaceTo s a k) (hc : spaceI s[k].toNat = true) : SpaceTo s a (k + 1) := by
  intro j hj h1 h2
  by_cases e : j = k
  · subst e; exact hc
  · exact h j hj h1 (by omega)
theorem spaceTo_down (s : ByteArray) (a k : Nat) (hk : a < s.size) (h : SpaceTo s (a + 1) k) (hc : spaceI s[a].toNat = true) : SpaceTo s a k := by
  intro j hj h1 h2
  by_cases e : j = a
  · subst e; exact hc
  · exact h j hj (by omega) h2
theorem dropB_of (s : ByteArray) (k : Nat) (h : SpaceTo s 0 k) (he : ∀ hk : k < s.size, spaceI s[k].toNat = false) : s.extract k s.size = dropB s := by
  apply bs_inj
  rw [bs_from, dropB, bs_tx]
  rw [dropWhile_drop space8 (bs s) k (fun j hj hjk => h j (by rw [← bs_length]; exact hj) (by omega) hjk) (fun hk => he (by rw [← bs_length]; exact hk))]
theorem chopB_of (s : ByteArray) (n : Nat) (hn : n ≤ s.size) (h : SpaceTo s n s.size) (he : ∀ hk : n - 1 < s.size, 0 < n → spaceI (s[n - 1]).toNat = false) : s.extract 0 n = chopB s := by
  apply bs_inj
  rw [bs_upto, chopB, bs_tx]
  have hl := bs_length s
  rw [dropWhile_drop space8 (bs s).reverse (s.size - n) ?_ ?_]
  · rw [List.drop_reverse, List.reverse_reverse, hl]
    congr 1; omega
  · intro j hj hjk
    rw [List.length_reverse] at hj
    rw [List.getElem_reverse]
    exact h _ (by omega) (by omega) (by omega)
  · intro hk
    rw [List.length_reverse] at hk
    rw [List.getElem_reverse]
    have e : (bs s).length - 1 - (s.size - n) = n - 1 := by omega
    simp only [e]
    exact he (by omega) (by omega)
theorem dropB_step (s : ByteArray) (h : 0 < s.size) (hc : spaceI s[0].toNat = true) : dropB (s.extract 1 s.size) = dropB s := by
  unfold dropB
  rw [bs_from]
  conv => rhs; rw [bs_cons s h]
  rw [List.dropWhile_cons, if_pos (by exact hc)]
theorem dropB_end (s : ByteArray) (h : ∀ h : 0 < s.size, spaceI s[0].toNat = false) : dropB s = s := by
  rw [← dropB_of s 0 (spaceTo_start s 0) h]
  apply bs_inj; rw [bs_from]; simp
theorem chopB_end (s : ByteArray) (h : ∀ h : s.size - 1 < s.size, 0 < s.size → spaceI (s[s.size - 1]).toNat = false) : chopB s = s := by
  rw [← chopB_of s s.size (Nat.le_refl _) (spaceTo_start s _) h]
  apply bs_inj; rw [bs_upto, List.take_of_length_le]; rw [bs_length]; omega
theorem chopB_step (s : ByteArray) (h : s.size - 1 < s.size) (hc : spaceI (s[s.size - 1]).toNat = true) : chopB (s.extract 0 (s.size - 1)) = chopB s := by
  unfold chopB
  rw [bs_upto]
  have hl := bs_length s
  have e : bs s = (bs s).take (s.size - 1) ++ [s[s.size - 1]] := by
    have := List.take_append_getElem (l := bs s) (i := s.size - 1) (by omega)
    rw [bs_get s _ h] at this
    rw [this, List.take_of_length_le (by omega)]
  conv => rhs; rw [e]
  rw [List.reverse_append, List.reverse_singleton, List.singleton_append, List.dropWhile_cons, if_pos (by exact hc)]

end Nwl
