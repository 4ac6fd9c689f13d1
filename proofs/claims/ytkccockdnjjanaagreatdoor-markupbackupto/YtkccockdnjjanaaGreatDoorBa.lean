/-
  Plain facts on bytes and texts (layer 1): nothing of the program. Plain facts on versions, word by word (layer 5): nothing of the program. Plain facts on how versions compare (layer 6): nothing of the program. Contracts of the calls on single bytes (chars, and the document's own answers): each tells what the plain function tells, and leaves memory alone. Contracts of the calls on texts that only read (chars, and the document's own answers). Plain facts: all bytes up to a place are of a kind. Plain facts on entities and tokens (layer 2): what a text is, piece by piece; nothing of the program. Laws of the plain functions of layer 2. Plain facts on trees (layer 3): which nodes some tokens make; nothing of the program. How things lie in memory (all layers): blocks, rows that may be read, nodes that may be read.
-/
import Derived.Lib.Strings
import Derived.Lib.Bytealg
import Derived.Lib.Small
import Derived.Test.YtkccockdnjjanaaGreatDoorRows
import Derived.WalkKit
import Derived.WalkLawsBesides
import Derived.WalkSpells
import Derived.LoopTactic
import Derived.Lib.Hide
import Derived.Lib.IndexMore
import Derived.Lib.RuneBytes
import Derived.Lib.Builder
import Derived.Lib.FrozenHead2
import Derived.Laws.Externs
import Derived.OwnWalk
import Derived.WalkMore
import Derived.ScopeJumps
import Derived.Maps.Range
import Derived.WalkSmall
import Derived.Laws.AppendOwnNone
namespace Nwl

/-- the value of a byte -/
def bI (c : UInt8) : Int := (c.toNat : Int)
def spaceI (c : Int) : Bool := c == 9 || c == 10 || c == 13 || c == 32
def allowedI (c : Int) : Bool := spaceI c || decide (32 < c)
def digitI (c : Int) : Bool := decide (48 ≤ c) && decide (c ≤ 57)
def upperI (c : Int) : Bool := decide (65 ≤ c) && decide (c ≤ 90)
def letterI (c : Int) : Bool := upperI c || (decide (97 ≤ c) && decide (c ≤ 122))
def beginI (c : Int) : Bool := letterI c || c == 95
def withinI (c : Int) : Bool := beginI c || digitI c || c == 45 || c == 46 || c == 58
def lowI (c : Int) : Int := if upperI c then c + 32 else c
def low8 (c : UInt8) : UInt8 := if upperI c.toNat then c + 32 else c

def space8 (c : UInt8) : Bool := spaceI c.toNat
def within8 (c : UInt8) : Bool := withinI c.toNat
def nameL : List UInt8 → Bool
  | [] => false
  | c :: r => beginI c.toNat && r.all within8
def trimL (l : List UInt8) : List UInt8 := ((l.dropWhile space8).reverse.dropWhile space8).reverse
def lowerL (l : List UInt8) : List UInt8 := l.map low8

/-- a text's bytes -/
def bs (s : ByteArray) : List UInt8 := s.data.toList
/-- a text of bytes -/
def tx (l : List UInt8) : ByteArray := ⟨l.toArray⟩
theorem bs_tx (l : List UInt8) : bs (tx l) = l := rfl
theorem tx_bs (s : ByteArray) : tx (bs s) = s := rfl
theorem bs_length (s : ByteArray) : (bs s).length = s.size := by simp [bs]
theorem tx_size (l : List UInt8) : (tx l).size = l.length := by simp [tx, ByteArray.size]
theorem tx_inj {a b : List UInt8} (h : tx a = tx b) : a = b := by
  have := congrArg bs h; simpa [bs_tx] using this

def nameB (s : ByteArray) : Bool := nameL (bs s)
def trimB (s : ByteArray) : ByteArray := tx (trimL (bs s))
def lowerB (s : ByteArray) : ByteArray := tx (lowerL (bs s))
def dropB (s : ByteArray) : ByteArray := tx ((bs s).dropWhile space8)
def chopB (s : ByteArray) : ByteArray := tx (((bs s).reverse.dropWhile space8).reverse)

theorem chop_drop (s : ByteArray) : chopB (dropB s) = trimB s := by
  simp [chopB, dropB, trimB, trimL, bs_tx]

theorem begin_within (c : Int) (h : beginI c = true) : withinI c = true := by simp [withinI, h]

theorem bs_get (s : ByteArray) (k : Nat) (h : k < s.size) : (bs s)[k]'(by rw [bs_length]; exact h) = s[k] := rfl
theorem mem_bs (s : ByteArray) (c : UInt8) : c ∈ bs s ↔ ∃ k, ∃ h : k < s.size, s[k] = c := by
  rw [List.mem_iff_getElem]
  constructor
  · rintro ⟨k, h, e⟩; exact ⟨k, by rw [← bs_length]; exact h, e⟩
  · rintro ⟨k, h, e⟩; exact ⟨k, by rw [bs_length]; exact h, e⟩

theorem cons_of_pos : ∀ (l : List UInt8) (h : 0 < l.length), l = l[0] :: l.drop 1
  | [], h => by simp at h
  | _ :: _, _ => rfl
theorem bs_cons (s : ByteArray) (h : 0 < s.size) : bs s = s[0] :: (bs s).drop 1 := cons_of_pos (bs s) (by rw [bs_length]; exact h)

/-- from 'a' up to k all bytes may stand within a name -/
def WithinTo (s : ByteArray) (a k : Nat) : Prop := ∀ j (hj : j < s.size), a ≤ j → j < k → withinI s[j].toNat = true
theorem withinTo_start (s : ByteArray) (a : Nat) : WithinTo s a a := fun j _ h1 h2 => by omega
theorem withinTo_succ (s : ByteArray) (a k : Nat) (hk : k < s.size) (h : WithinTo s a k) (hc : withinI s[k].toNat = true) : WithinTo s a (k + 1) := by
  intro j hj h1 h2
  by_cases e : j = k
  · subst e; exact hc
  · exact h j hj h1 (by omega)
theorem withinTo_end (s : ByteArray) (a k : Nat) (h : WithinTo s a k) (hk : s.size ≤ k) : WithinTo s a s.size :=
  fun j hj h1 _ => h j hj h1 (by omega)
theorem nameB_iff (s : ByteArray) : nameB s = true ↔ ∃ h : 0 < s.size, beginI s[0].toNat = true ∧ WithinTo s 1 s.size := by
  unfold nameB
  constructor
  · intro h
    have hpos : 0 < s.size := by
      rw [← bs_length]
      cases hl : bs s with
      | nil => rw [hl] at h; simp [nameL] at h
      | cons c r => simp
    refine ⟨hpos, ?_, ?_⟩
    · have e := bs_cons s hpos
      rw [e] at h
      simp only [nameL, Bool.and_eq_true] at h
      exact h.1
    · intro j hj h1 _
      have e := bs_cons s hpos
      rw [e] at h
      simp only [nameL, Bool.and_eq_true, List.all_eq_true] at h
      have hm : s[j] ∈ (bs s).drop 1 := by
        rw [List.mem_iff_getElem]
        refine ⟨j - 1, by rw [List.length_drop, bs_length]; omega, ?_⟩
        rw [List.getElem_drop]
        have : 1 + (j - 1) = j := by omega
        simp only [this]
        exact bs_get s j hj
      exact h.2 _ hm
  · rintro ⟨hpos, hb, hw⟩
    have e := bs_cons s hpos
    rw [e]
    simp only [nameL, Bool.and_eq_true, List.all_eq_true]
    refine ⟨hb, ?_⟩
    intro c hc
    rw [List.mem_iff_getElem] at hc
    obtain ⟨k, hk, rfl⟩ := hc
    rw [List.length_drop, bs_length] at hk
    rw [List.getElem_drop]
    exact hw (1 + k) (by omega) (by omega) (by omega)
theorem nameB_not {s : ByteArray} (h : ¬ ∃ h : 0 < s.size, beginI s[0].toNat = true ∧ WithinTo s 1 s.size) : nameB s = false := by
  cases e : nameB s with
  | false => rfl
  | true => exact absurd ((nameB_iff s).1 e) h

theorem bs_inj {a b : ByteArray} (h : bs a = bs b) : a = b := by rw [← tx_bs a, h, tx_bs]
theorem bs_ext {a b : ByteArray} : a = b ↔ bs a = bs b := ⟨fun h => by rw [h], bs_inj⟩
theorem bs_extract (s : ByteArray) (a b : Nat) : bs (s.extract a b) = ((bs s).drop a).take (b - a) := Go.Lib.extract_data s a b
theorem bs_from (s : ByteArray) (a : Nat) : bs (s.extract a s.size) = (bs s).drop a := by
  rw [bs_extract, List.take_of_length_le]; rw [List.length_drop, bs_length]; omega
theorem bs_upto (s : ByteArray) (b : Nat) : bs (s.extract 0 b) = (bs s).take b := by rw [bs_extract]; simp
theorem bs_append (a b : ByteArray) : bs (a ++ b) = bs a ++ bs b := by simp [bs]
theorem extract_size (s : ByteArray) (a b : Nat) (h : b ≤ s.size) : (s.extract a b).size = b - a := by
  rw [← bs_length, bs_extract, List.length_take, List.length_drop, bs_length]; omega

theorem dropWhile_drop (p : UInt8 → Bool) : ∀ (l : List UInt8) (k : Nat) (_ : ∀ j (hj : j < l.length), j < k → p l[j] = true) (_ : ∀ (hk : k < l.length), p l[k] = false), l.dropWhile p = l.drop k
  | [], k, _, _ => by simp
  | c :: r, 0, _, h2 => by
    have := h2 (by simp)
    simp only [List.getElem_cons_zero] at this
    simp [this]
  | c :: r, k + 1, h1, h2 => by
    have h0 := h1 0 (by simp) (by omega)
    simp only [List.getElem_cons_zero] at h0
    rw [List.dropWhile_cons, if_pos h0, List.drop_succ_cons]
    exact dropWhile_drop p r k (fun j hj h => by have := h1 (j + 1) (by simp; omega) (by omega); simpa using this) (fun hk => by have := h2 (by simp; omega); simpa using this)

/-- from 'a' up to k all bytes are Spaces -/
def SpaceTo (s : ByteArray) (a k : Nat) : Prop := ∀ j (hj : j < s.size), a ≤ j → j < k → spaceI s[j].toNat = true
theorem spaceTo_start (s : ByteArray) (a : Nat) : SpaceTo s a a := fun j _ h1 h2 => by omega
theorem spaceTo_up (s : ByteArray) (a k : Nat) (hk : k < s.size) (h : SpaceTo s a k) (hc : spaceI s[k].toNat = true) : SpaceTo s a (k + 1) := by
  intro j hj h1 h2
  by_cases e : j = k
  · subst e; exact hc
  · exact h j hj h1 (by omega)
theorem spaceTo_down (s : ByteArray) (a k : Nat) (hk : a < s.size) (h : SpaceTo s (a + 1) k) (hc : spaceI s[a].toNat = true) : SpaceTo s a k := by
  intro j hj h1 h2
  by_cases e : j = a
  · subst e; exact hc
  · exact h j hj (by omega) h2
theorem dropB_of (s : ByteArray) (k : Nat) (h : SpaceTo s 0 k) (he : ∀ hk : k < s.size, spaceI s[k].toNat = false) : s.extract k s.size = dropB s := by
  apply bs_inj
  rw [bs_from, dropB, bs_tx]
  rw [dropWhile_drop space8 (bs s) k (fun j hj hjk => h j (by rw [← bs_length]; exact hj) (by omega) hjk) (fun hk => he (by rw [← bs_length]; exact hk))]
theorem chopB_of (s : ByteArray) (n : Nat) (hn : n ≤ s.size) (h : SpaceTo s n s.size) (he : ∀ hk : n - 1 < s.size, 0 < n → spaceI (s[n - 1]).toNat = false) : s.extract 0 n = chopB s := by
  apply bs_inj
  rw [bs_upto, chopB, bs_tx]
  have hl := bs_length s
  rw [dropWhile_drop space8 (bs s).reverse (s.size - n) ?_ ?_]
  · rw [List.drop_reverse, List.reverse_reverse, hl]
    congr 1; omega
  · intro j hj hjk
    rw [List.length_reverse] at hj
    rw [List.getElem_reverse]
    exact h _ (by omega) (by omega) (by omega)
  · intro hk
    rw [List.length_reverse] at hk
    rw [List.getElem_reverse]
    have e : (bs s).length - 1 - (s.size - n) = n - 1 := by omega
    simp only [e]
    exact he (by omega) (by omega)
theorem dropB_step (s : ByteArray) (h : 0 < s.size) (hc : spaceI s[0].toNat = true) : dropB (s.extract 1 s.size) = dropB s := by
  unfold dropB
  rw [bs_from]
  conv => rhs; rw [bs_cons s h]
  rw [List.dropWhile_cons, if_pos (by exact hc)]
theorem dropB_end (s : ByteArray) (h : ∀ h : 0 < s.size, spaceI s[0].toNat = false) : dropB s = s := by
  rw [← dropB_of s 0 (spaceTo_start s 0) h]
  apply bs_inj; rw [bs_from]; simp
theorem chopB_end (s : ByteArray) (h : ∀ h : s.size - 1 < s.size, 0 < s.size → spaceI (s[s.size - 1]).toNat = false) : chopB s = s := by
  rw [← chopB_of s s.size (Nat.le_refl _) (spaceTo_start s _) h]
  apply bs_inj; rw [bs_upto, List.take_of_length_le]; rw [bs_length]; omega
theorem chopB_step (s : ByteArray) (h : s.size - 1 < s.size) (hc : spaceI (s[s.size - 1]).toNat = true) : chopB (s.extract 0 (s.size - 1)) = chopB s := by
  unfold chopB
  rw [bs_upto]
  have hl := bs_length s
  have e : bs s = (bs s).take (s.size - 1) ++ [s[s.size - 1]] := by
    have := List.take_append_getElem (l := bs s) (i := s.size - 1) (by omega)
    rw [bs_get s _ h] at this
    rw [this, List.take_of_length_le (by omega)]
  conv => rhs; rw [e]
  rw [List.reverse_append, List.reverse_singleton, List.singleton_append, List.dropWhile_cons, if_pos (by exact hc)]

end Nwl

namespace Nwl
set_option linter.unusedSimpArgs false

structure Wd where
  k : Nat
  t : List UInt8
  deriving DecidableEq
structure Pt where
  s : List UInt8
  dash : Bool
  num : Bool
  deriving DecidableEq

def mayV (c : Int) : Bool := decide (33 ≤ c) && decide (c ≤ 126) && !(c == 91 || c == 93 || c == 40 || c == 41 || c == 44)
def may8 (c : UInt8) : Bool := mayV c.toNat
def rightV (l : List UInt8) : Bool := decide (1 ≤ l.length) && decide (l.length ≤ 100) && l.all may8
def sepI (c : Int) : Bool := c == 46 || c == 45
def sep8 (c : UInt8) : Bool := sepI c.toNat
def dig8 (c : UInt8) : Bool := digitI c.toNat

/-- does x go on a part that begins with h? -/
def partQ (h x : UInt8) : Bool := !sep8 x && (dig8 x == dig8 h)
/-- how long the part at the head is -/
def partN (l : List UInt8) : Nat := (l.takeWhile (partQ (l.headD 0))).length
def digHd : List UInt8 → Bool
  | [] => false
  | c :: _ => dig8 c
def nextL : List UInt8 → List UInt8
  | [] => []
  | c :: r => if sep8 c then r else c :: r
def dashL : List UInt8 → Bool
  | [] => false
  | c :: _ => !(c.toNat == 46)
/-- the parts of a text, the first one behind a dash or not -/
def partsF : Nat → Bool → List UInt8 → List Pt
  | 0, _, _ => []
  | f + 1, d, l =>
    ⟨l.take (partN l), d, digHd (l.drop (partN l))⟩ :: (if (l.drop (partN l)).isEmpty then [] else partsF f (dashL (l.drop (partN l))) (nextL (l.drop (partN l))))
def partsD (d : Bool) (l : List UInt8) : List Pt := partsF (l.length + 1) d l
def partsL (l : List UInt8) : List Pt := partsD false l

def numW (s : List UInt8) (d : Bool) : Wd :=
  let t := s.dropWhile (fun c => c.toNat == 48)
  if t.isEmpty then ⟨6, []⟩ else if d then ⟨9, t⟩ else ⟨10, t⟩
def namedK (s : List UInt8) : Nat :=
  if s = [97, 108, 112, 104, 97] then 1 else if s = [98, 101, 116, 97] then 2 else if s = [109, 105, 108, 101, 115, 116, 111, 110, 101] then 3
  else if s = [114, 99] then 4 else if s = [99, 114] then 4 else if s = [115, 110, 97, 112, 115, 104, 111, 116] then 5
  else if s = [103, 97] then 6 else if s = [102, 105, 110, 97, 108] then 6 else if s = [114, 101, 108, 101, 97, 115, 101] then 6 else if s = [115, 112] then 7 else 8
def shortK (s : List UInt8) : Nat := if s = [97] then 1 else if s = [98] then 2 else if s = [109] then 3 else 8
def kindW (s : List UInt8) (num : Bool) : Nat := if num && namedK s == 8 then shortK s else namedK s
def wordW (s : List UInt8) (d num : Bool) : Wd :=
  if s.isEmpty || digHd s then numW s d else if kindW s num == 8 then ⟨8, s⟩ else ⟨kindW s num, []⟩
def wordP (p : Pt) : Wd := wordW p.s p.dash p.num

def noN (w : Wd) : Bool := w.k == 6
def wn (l : List Wd) : List Wd := (l.reverse.dropWhile noN).reverse
def softW (w : Wd) : Bool := w.k == 6 || w.k == 10
def stepW (acc : List Wd) (w : Wd) : List Wd := (if softW w then acc else wn acc) ++ [w]
def aheadW : List Wd → Bool
  | [] => false
  | w :: _ => softW w
def cleanW : List Wd → List Wd
  | [] => []
  | w :: ws => if noN w && !aheadW (cleanW ws) then cleanW ws else w :: cleanW ws
/-- the words of a text in small letters -/
def wordsL (l : List UInt8) : List Wd := cleanW ((partsL l).map wordP)
def splitW (l : List UInt8) : List Wd := wordsL (lowerL l)

theorem wn_nil : wn [] = [] := rfl
theorem wn_no (l : List Wd) (w : Wd) (h : noN w = true) : wn (l ++ [w]) = wn l := by simp [wn, h]
theorem wn_yes (l : List Wd) (w : Wd) (h : noN w = false) : wn (l ++ [w]) = l ++ [w] := by simp [wn, h]
theorem wn_clean : ∀ (ws : List Wd) (acc : List Wd), wn (ws.foldl stepW acc) = (if aheadW (cleanW ws) then acc else wn acc) ++ cleanW ws
  | [], acc => by simp [cleanW, aheadW]
  | w :: ws, acc => by
    rw [List.foldl_cons, wn_clean ws (stepW acc w)]
    cases hn : noN w with
    | true =>
      have hs : softW w = true := by unfold noN at hn; unfold softW; rw [hn]; rfl
      cases ha : aheadW (cleanW ws) with
      | true =>
        have e : cleanW (w :: ws) = w :: cleanW ws := by rw [cleanW, hn, ha]; rfl
        rw [e]; simp [stepW, hs, aheadW]
      | false =>
        have e : cleanW (w :: ws) = cleanW ws := by rw [cleanW, hn, ha]; rfl
        rw [e, ha]; simp [stepW, hs, wn_no _ _ hn]
    | false =>
      have e : cleanW (w :: ws) = w :: cleanW ws := by rw [cleanW, hn]; rfl
      rw [e]
      cases hs : softW w with
      | true => simp [stepW, hs, aheadW, wn_yes _ _ hn]
      | false => simp [stepW, hs, aheadW, wn_yes _ _ hn]

theorem nextL_le (r : List UInt8) : (nextL r).length ≤ r.length := by
  cases r with
  | nil => exact Nat.le_refl _
  | cons c r => simp only [nextL]; split <;> simp
theorem partN_le (l : List UInt8) : partN l ≤ l.length := by
  unfold partN
  exact (List.takeWhile_sublist _).length_le
theorem partN_zero {c : UInt8} {r : List UInt8} (h : sep8 c = true) : partN (c :: r) = 0 := by
  simp [partN, partQ, h]
theorem partN_pos {c : UInt8} {r : List UInt8} (h : sep8 c = false) : 0 < partN (c :: r) := by
  simp [partN, partQ, h]
theorem next_lt {l : List UInt8} (h : l.drop (partN l) ≠ []) : (nextL (l.drop (partN l))).length < l.length := by
  cases l with
  | nil => simp at h
  | cons c r =>
    cases hs : sep8 c with
    | true => rw [partN_zero hs]; simp [nextL, hs]
    | false =>
      have h1 := partN_pos (r := r) hs
      have h2 := nextL_le ((c :: r).drop (partN (c :: r)))
      have h3 : ((c :: r).drop (partN (c :: r))).length = (c :: r).length - partN (c :: r) := List.length_drop
      have h4 := partN_le (c :: r)
      have h5 : (c :: r).length = r.length + 1 := rfl
      omega
theorem partsF_more : ∀ (f g : Nat) (d : Bool) (l : List UInt8), l.length < f → l.length < g → partsF f d l = partsF g d l
  | 0, _, _, _, h, _ => by omega
  | _, 0, _, _, _, h => by omega
  | f + 1, g + 1, d, l, hf, hg => by
    rw [partsF, partsF]
    cases hr : (l.drop (partN l)).isEmpty with
    | true => rfl
    | false =>
      have hne : l.drop (partN l) ≠ [] := by intro e; rw [e] at hr; cases hr
      have := next_lt hne
      rw [if_neg (by decide), if_neg (by decide)]
      rw [partsF_more f g (dashL (l.drop (partN l))) (nextL (l.drop (partN l))) (by omega) (by omega)]
theorem partsD_end {d : Bool} {l : List UInt8} (h : l.drop (partN l) = []) : partsD d l = [⟨l.take (partN l), d, false⟩] := by
  unfold partsD; rw [partsF, h]; rfl
theorem partsD_step {d : Bool} {l : List UInt8} (h : l.drop (partN l) ≠ []) : partsD d l = ⟨l.take (partN l), d, digHd (l.drop (partN l))⟩ :: partsD (dashL (l.drop (partN l))) (nextL (l.drop (partN l))) := by
  unfold partsD
  rw [partsF]
  have hr : (l.drop (partN l)).isEmpty = false := by
    cases e : l.drop (partN l) with
    | nil => exact absurd e h
    | cons => rfl
  rw [hr, if_neg (by decide)]
  rw [partsF_more l.length ((nextL (l.drop (partN l))).length + 1) _ _ (next_lt h) (by omega)]

/-- the program's way: what is told so far, and the rest -/
def goW (acc : List Wd) (d : Bool) (l : List UInt8) : List Wd := wn (((partsD d l).map wordP).foldl stepW acc)
theorem goW_end {acc : List Wd} {d : Bool} {l : List UInt8} (h : l.drop (partN l) = []) : goW acc d l = wn (stepW acc (wordW (l.take (partN l)) d false)) := by
  unfold goW; rw [partsD_end h]; rfl
theorem goW_step {acc : List Wd} {d : Bool} {l : List UInt8} (h : l.drop (partN l) ≠ []) : goW acc d l = goW (stepW acc (wordW (l.take (partN l)) d (digHd (l.drop (partN l))))) (dashL (l.drop (partN l))) (nextL (l.drop (partN l))) := by
  unfold goW; rw [partsD_step h]; rfl
theorem goW_words (l : List UInt8) : goW [] false l = wordsL l := by
  unfold goW wordsL partsL
  rw [wn_clean]
  split <;> simp [wn_nil]

theorem takeWhile_take (p : UInt8 → Bool) : ∀ (l : List UInt8) (k : Nat) (_ : ∀ j (hj : j < l.length), j < k → p l[j] = true) (_ : ∀ (hk : k < l.length), p l[k] = false), l.takeWhile p = l.take k
  | [], k, _, _ => by simp
  | c :: r, 0, _, h2 => by
    have := h2 (by simp)
    simp only [List.getElem_cons_zero] at this
    simp [this]
  | c :: r, k + 1, h1, h2 => by
    have h0 := h1 0 (by simp) (by omega)
    simp only [List.getElem_cons_zero] at h0
    rw [List.takeWhile_cons, if_pos h0, List.take_succ_cons]
    rw [takeWhile_take p r k (fun j hj h => by have := h1 (j + 1) (by simp; omega) (by omega); simpa using this) (fun hk => by have := h2 (by simp; omega); simpa using this)]
/-- the part that begins at 'a' goes on up to k -/
def PartTo (s : ByteArray) (a k : Nat) : Prop := ∀ j (hj : j < s.size) (ha : a < s.size), a ≤ j → j < k → partQ s[a] s[j] = true
theorem partTo_start (s : ByteArray) (a : Nat) : PartTo s a a := fun j _ _ h1 h2 => by omega
theorem partTo_up (s : ByteArray) (a k : Nat) (hk : k < s.size) (ha : a < s.size) (h : PartTo s a k) (hq : partQ s[a] s[k] = true) : PartTo s a (k + 1) := by
  intro j hj ha' h1 h2
  by_cases e : j = k
  · subst e; exact hq
  · exact h j hj ha' h1 (by omega)
theorem partN_of (s : ByteArray) (a k : Nat) (hak : a ≤ k) (hks : k ≤ s.size) (h : PartTo s a k) (he : ∀ (hk : k < s.size), partQ (s[a]'(by omega)) s[k] = false) : partN ((bs s).drop a) = k - a := by
  have hl := bs_length s
  rcases Nat.lt_or_ge a s.size with ha | ha
  · have hd : ((bs s).drop a).headD 0 = s[a] := by
      rw [List.headD_eq_head?_getD, List.head?_drop, List.getElem?_eq_getElem (by omega)]
      rfl
    unfold partN
    rw [hd, takeWhile_take _ _ (k - a) ?_ ?_]
    · rw [List.length_take, List.length_drop, hl]; omega
    · intro j hj hjk
      rw [List.length_drop] at hj
      rw [List.getElem_drop]
      exact h (a + j) (by omega) ha (by omega) (by omega)
    · intro hk
      rw [List.length_drop] at hk
      rw [List.getElem_drop]
      have e : a + (k - a) = k := by omega
      simp only [e]
      exact he (by omega)
  · have : (bs s).drop a = [] := List.drop_eq_nil_of_le (by omega)
    rw [this]
    have : k = a := by omega
    subst this
    simp [partN]

/-- all bytes up to k may stand in a version -/
def MayTo (s : ByteArray) (k : Nat) : Prop := ∀ j (hj : j < s.size), j < k → mayV s[j].toNat = true
theorem mayTo_start (s : ByteArray) : MayTo s 0 := fun j _ h => by omega
theorem mayTo_up (s : ByteArray) (k : Nat) (hk : k < s.size) (h : MayTo s k) (hc : mayV s[k].toNat = true) : MayTo s (k + 1) := by
  intro j hj h2
  by_cases e : j = k
  · subst e; exact hc
  · exact h j hj (by omega)
theorem right_yes (s : ByteArray) (h0 : 1 ≤ s.size) (h1 : s.size ≤ 100) (h : MayTo s s.size) : rightV (bs s) = true := by
  unfold rightV
  simp only [Bool.and_eq_true, decide_eq_true_eq, List.all_eq_true, bs_length]
  refine ⟨⟨h0, h1⟩, fun c hc => ?_⟩
  obtain ⟨k, hk, rfl⟩ := (mem_bs s c).1 hc
  exact h k hk hk
theorem right_no (s : ByteArray) (k : Nat) (hk : k < s.size) (hc : mayV s[k].toNat = false) : rightV (bs s) = false := by
  unfold rightV
  have : (bs s).all may8 = false := by
    rw [List.all_eq_false]
    exact ⟨s[k], (mem_bs s _).2 ⟨k, hk, rfl⟩, by unfold may8; rw [hc]; decide⟩
  rw [this, Bool.and_false]
theorem right_long (s : ByteArray) (h : 100 < s.size) : rightV (bs s) = false := by
  unfold rightV
  rw [bs_length, decide_eq_false (by omega : ¬ s.size ≤ 100)]
  simp
theorem right_short (s : ByteArray) (h : s.size = 0) : rightV (bs s) = false := by
  unfold rightV
  rw [bs_length, decide_eq_false (by omega : ¬ 1 ≤ s.size)]
  simp
end Nwl

namespace Nwl
open Go
set_option linter.unusedSimpArgs false
set_option linter.unusedVariables false

/-- an order that tells -1, 0, 1 -/
structure Ord3 {α : Type} (f : α → α → Int) : Prop where
  sgn : ∀ a b, f a b = -1 ∨ f a b = 0 ∨ f a b = 1
  anti : ∀ a b, f b a = - f a b
  trans : ∀ a b c, f a b ≤ 0 → f b c ≤ 0 → f a c ≤ 0
theorem Ord3.refl {α : Type} {f : α → α → Int} (h : Ord3 f) (a : α) : f a a = 0 := by
  have := h.anti a a
  omega
theorem Ord3.lt_le {α : Type} {f : α → α → Int} (h : Ord3 f) {a b c : α} (h1 : f a b < 0) (h2 : f b c ≤ 0) : f a c < 0 := by
  have h3 := h.trans a b c (by omega) h2
  rcases Int.lt_or_eq_of_le h3 with h4 | h4
  · exact h4
  · have h5 := h.anti a c
    have h6 := h.trans b c a h2 (by omega)
    have h7 := h.anti a b
    omega
theorem Ord3.le_lt {α : Type} {f : α → α → Int} (h : Ord3 f) {a b c : α} (h1 : f a b ≤ 0) (h2 : f b c < 0) : f a c < 0 := by
  have h3 := h.trans a b c h1 (by omega)
  rcases Int.lt_or_eq_of_le h3 with h4 | h4
  · exact h4
  · have h5 := h.anti a c
    have h6 := h.trans c a b (by omega) h1
    have h7 := h.anti b c
    omega
theorem Ord3.same {α : Type} {f : α → α → Int} (h : Ord3 f) {a b : α} (c : α) (h0 : f a b = 0) : f a c = f b c := by
  have h1 := h.anti a b
  have s1 := h.sgn a c
  have s2 := h.sgn b c
  have a1 := h.anti a c
  have a2 := h.anti b c
  have t1 := h.trans a b c (by omega)
  have t2 := h.trans b a c (by omega)
  have t3 := fun x => h.trans c a b x (by omega)
  have t4 := fun x => h.trans c b a x (by omega)
  omega
theorem Ord3.pull {α β : Type} {f : α → α → Int} (h : Ord3 f) (k : β → α) : Ord3 (fun a b => f (k a) (k b)) :=
  ⟨fun a b => h.sgn _ _, fun a b => h.anti _ _, fun a b c => h.trans _ _ _⟩
/-- the first that tells -/
def thenI (x y : Int) : Int := if x = 0 then y else x
theorem Ord3.lex {α : Type} {f g : α → α → Int} (hf : Ord3 f) (hg : Ord3 g) : Ord3 (fun a b => thenI (f a b) (g a b)) := by
  refine ⟨fun a b => ?_, fun a b => ?_, fun a b c => ?_⟩
  · have h1 := hf.sgn a b
    have h2 := hg.sgn a b
    unfold thenI
    split <;> omega
  · have h1 := hf.anti a b
    have h2 := hg.anti a b
    unfold thenI
    split <;> split <;> omega
  · intro h1 h2
    have t1 := hf.trans a b c
    have t2 := hg.trans a b c
    have l1 := fun x => hf.lt_le (a := a) (b := b) (c := c) x
    have l2 := fun x y => hf.le_lt (a := a) (b := b) (c := c) x y
    unfold thenI at *
    by_cases e1 : f a b = 0
    · rw [if_pos e1] at h1
      by_cases e2 : f b c = 0
      · rw [if_pos e2] at h2
        have := hf.same c e1
        rw [if_pos (by omega)]
        exact t2 h1 h2
      · rw [if_neg e2] at h2
        have := l2 (by omega) (by omega)
        rw [if_neg (by omega)]; omega
    · rw [if_neg e1] at h1
      have h3 : f b c ≤ 0 := by
        by_cases e2 : f b c = 0
        · omega
        · rw [if_neg e2] at h2; exact h2
      have := l1 (by omega) h3
      rw [if_neg (by omega)]; omega
theorem ord_int : Ord3 Lib.compareInt := by
  refine ⟨fun a b => ?_, fun a b => ?_, fun a b c => ?_⟩
  · unfold Lib.compareInt; repeat' split
    all_goals omega
  · unfold Lib.compareInt; repeat' split
    all_goals omega
  · unfold Lib.compareInt; repeat' split
    all_goals omega
theorem cb_sgn : ∀ a b, Lib.compareBytes a b = -1 ∨ Lib.compareBytes a b = 0 ∨ Lib.compareBytes a b = 1
  | [], [] => by simp [Lib.compareBytes]
  | [], _ :: _ => by simp [Lib.compareBytes]
  | _ :: _, [] => by simp [Lib.compareBytes]
  | x :: a, y :: b => by
    have := cb_sgn a b
    unfold Lib.compareBytes
    split
    · omega
    · split <;> omega
theorem cb_anti : ∀ a b, Lib.compareBytes b a = - Lib.compareBytes a b
  | [], [] => by simp [Lib.compareBytes]
  | [], _ :: _ => by simp [Lib.compareBytes]
  | _ :: _, [] => by simp [Lib.compareBytes]
  | x :: a, y :: b => by
    have ih := cb_anti a b
    unfold Lib.compareBytes
    simp only [UInt8.lt_iff_toNat_lt]
    by_cases h1 : x.toNat < y.toNat
    · rw [if_neg (by omega : ¬ y.toNat < x.toNat), if_pos h1, if_pos h1]; rfl
    · by_cases h2 : y.toNat < x.toNat
      · rw [if_pos h2, if_neg h1, if_pos h2]
      · rw [if_neg h1, if_neg h2, if_neg h1, if_neg h2]; exact ih
theorem cb_trans : ∀ a b c, Lib.compareBytes a b ≤ 0 → Lib.compareBytes b c ≤ 0 → Lib.compareBytes a c ≤ 0
  | [], _, [], _, _ => by simp [Lib.compareBytes]
  | [], _, _ :: _, _, _ => by simp [Lib.compareBytes]
  | x :: a, [], c, h, _ => by simp [Lib.compareBytes] at h
  | x :: a, y :: b, [], _, h => by simp [Lib.compareBytes] at h
  | x :: a, y :: b, z :: c, h1, h2 => by
    have ih := cb_trans a b c
    unfold Lib.compareBytes at h1 h2 ⊢
    simp only [UInt8.lt_iff_toNat_lt] at *
    by_cases p1 : x.toNat < y.toNat
    · by_cases p2 : y.toNat < z.toNat
      · rw [if_pos (by omega)]; omega
      · rw [if_neg p2] at h2
        by_cases p3 : z.toNat < y.toNat
        · rw [if_pos p3] at h2; omega
        · rw [if_pos (by omega)]; omega
    · rw [if_neg p1] at h1
      by_cases p3 : y.toNat < x.toNat
      · rw [if_pos p3] at h1; omega
      · rw [if_neg p3] at h1
        by_cases p2 : y.toNat < z.toNat
        · rw [if_pos (by omega)]; omega
        · rw [if_neg p2] at h2
          by_cases p4 : z.toNat < y.toNat
          · rw [if_pos p4] at h2; omega
          · rw [if_neg p4] at h2
            rw [if_neg (by omega), if_neg (by omega)]
            exact ih h1 h2
theorem ord_bytes : Ord3 Lib.compareBytes := ⟨cb_sgn, cb_anti, cb_trans⟩
theorem cb_zero : ∀ a b, Lib.compareBytes a b = 0 → a = b
  | [], [], _ => rfl
  | [], _ :: _, h => by simp [Lib.compareBytes] at h
  | _ :: _, [], h => by simp [Lib.compareBytes] at h
  | x :: a, y :: b, h => by
    unfold Lib.compareBytes at h
    simp only [UInt8.lt_iff_toNat_lt] at h
    split at h
    · omega
    · split at h
      · omega
      · rw [cb_zero a b h]
        congr 1
        exact UInt8.toNat_inj.1 (by omega)

/-- a word whose kind is any number -/
structure Wz where
  k : Int
  t : List UInt8
  deriving DecidableEq
def Wz.of (w : Wd) : Wz := ⟨w.k, w.t⟩
def nZ : Wz := ⟨6, []⟩
def keyN (a : Wz) : Int := if a.k = 9 ∨ a.k = 10 then a.t.length else 0
def keyT (a : Wz) : List UInt8 := if a.k = 8 ∨ a.k = 9 ∨ a.k = 10 then a.t else []
def cmpZ (a b : Wz) : Int := thenI (Lib.compareInt a.k b.k) (thenI (Lib.compareInt (keyN a) (keyN b)) (Lib.compareBytes (keyT a) (keyT b)))
theorem ord_z : Ord3 cmpZ := (ord_int.pull Wz.k).lex ((ord_int.pull keyN).lex (ord_bytes.pull keyT))
def cmpF : Nat → List Wz → List Wz → Int
  | 0, _, _ => 0
  | n + 1, a, b => thenI (cmpZ (a.headD nZ) (b.headD nZ)) (cmpF n a.tail b.tail)
/-- how two lists of words compare -/
def wordsC (a b : List Wz) : Int := cmpF (max a.length b.length) a b
theorem cmpF_nil : ∀ n, cmpF n [] [] = 0
  | 0 => rfl
  | n + 1 => by rw [cmpF, List.tail_nil, cmpF_nil n]; decide
theorem cmpF_more : ∀ (n m : Nat) (a b : List Wz), a.length ≤ n → b.length ≤ n → a.length ≤ m → b.length ≤ m → cmpF n a b = cmpF m a b
  | 0, m, a, b, h1, h2, _, _ => by
    obtain rfl := List.eq_nil_of_length_eq_zero (Nat.le_zero.1 h1)
    obtain rfl := List.eq_nil_of_length_eq_zero (Nat.le_zero.1 h2)
    rw [cmpF_nil, cmpF_nil]
  | n, 0, a, b, _, _, h1, h2 => by
    obtain rfl := List.eq_nil_of_length_eq_zero (Nat.le_zero.1 h1)
    obtain rfl := List.eq_nil_of_length_eq_zero (Nat.le_zero.1 h2)
    rw [cmpF_nil, cmpF_nil]
  | n + 1, m + 1, a, b, h1, h2, h3, h4 => by
    rw [cmpF, cmpF, cmpF_more n m a.tail b.tail (by rw [List.length_tail]; omega) (by rw [List.length_tail]; omega) (by rw [List.length_tail]; omega) (by rw [List.length_tail]; omega)]
theorem wordsC_eq (n : Nat) (a b : List Wz) (h1 : a.length ≤ n) (h2 : b.length ≤ n) : wordsC a b = cmpF n a b := cmpF_more _ _ _ _ (by omega) (by omega) h1 h2
theorem wordsC_nil : wordsC [] [] = 0 := rfl
theorem wordsC_step (a b : List Wz) : wordsC a b = thenI (cmpZ (a.headD nZ) (b.headD nZ)) (wordsC a.tail b.tail) := by
  rw [wordsC_eq (max a.length b.length + 1) a b (by omega) (by omega), cmpF, wordsC_eq (max a.length b.length) a.tail b.tail (by rw [List.length_tail]; omega) (by rw [List.length_tail]; omega)]
theorem ord_F : ∀ n, Ord3 (cmpF n)
  | 0 => ⟨fun _ _ => .inr (.inl rfl), fun _ _ => rfl, fun _ _ _ _ _ => Int.le_refl _⟩
  | n + 1 => (ord_z.pull (fun a : List Wz => a.headD nZ)).lex ((ord_F n).pull List.tail)
theorem ord_words : Ord3 wordsC := by
  refine ⟨fun a b => (ord_F _).sgn a b, fun a b => ?_, fun a b c => ?_⟩
  · have := (ord_F (max a.length b.length)).anti a b
    rw [wordsC_eq (max a.length b.length) b a (by omega) (by omega)]
    exact this
  · have := (ord_F (max a.length (max b.length c.length))).trans a b c
    rw [wordsC_eq (max a.length (max b.length c.length)) a b (by omega) (by omega), wordsC_eq (max a.length (max b.length c.length)) b c (by omega) (by omega), wordsC_eq (max a.length (max b.length c.length)) a c (by omega) (by omega)]
    exact this
/-- the words of a version -/
def spZ (l : List UInt8) : List Wz := (splitW l).map Wz.of
/-- how two versions compare -/
def cmpV (a b : List UInt8) : Int := wordsC (spZ a) (spZ b)
theorem ord_v : Ord3 cmpV := ord_words.pull spZ
def ordV (a b : List UInt8) : Int := thenI (cmpV a b) (Lib.compareBytes a b)
theorem ord_o : Ord3 ordV := ord_v.lex ord_bytes
theorem ordV_zero (a b : List UInt8) (h : ordV a b = 0) : a = b := by
  unfold ordV thenI at h
  split at h
  · exact cb_zero a b h
  · omega
/-- a version at or below another -/
def leV (a b : List UInt8) : Bool := decide (ordV a b ≤ 0)
/-- versions in order -/
def sortV (l : List (List UInt8)) : List (List UInt8) := l.mergeSort leV
theorem leV_trans (a b c : List UInt8) (h1 : leV a b = true) (h2 : leV b c = true) : leV a c = true := by
  unfold leV at *
  rw [decide_eq_true_eq] at *
  exact ord_o.trans a b c h1 h2
theorem leV_total (a b : List UInt8) : (leV a b || leV b a) = true := by
  unfold leV
  have := ord_o.anti a b
  rw [Bool.or_eq_true, decide_eq_true_eq, decide_eq_true_eq]
  omega
theorem leV_anti (a b : List UInt8) (h1 : leV a b = true) (h2 : leV b a = true) : a = b := by
  unfold leV at *
  rw [decide_eq_true_eq] at *
  have := ord_o.anti a b
  exact ordV_zero a b (by omega)
theorem sortV_perm (l : List (List UInt8)) : (sortV l).Perm l := List.mergeSort_perm l leV
theorem sortV_sorted (l : List (List UInt8)) : (sortV l).Pairwise (fun a b => leV a b = true) := List.pairwise_mergeSort leV_trans leV_total l
/-- there is one order alone -/
theorem sortV_one (l l' : List (List UInt8)) (hp : l'.Perm l) (hs : l'.Pairwise (fun a b => leV a b = true)) : l' = sortV l :=
  List.Perm.eq_of_pairwise (le := fun a b => leV a b = true) (fun a b _ _ h1 h2 => leV_anti a b h1 h2) hs (sortV_sorted l) (hp.trans (sortV_perm l).symm)
theorem sortV_of_perm (l l' : List (List UInt8)) (hp : l.Perm l') : sortV l = sortV l' := sortV_one l' (sortV l) ((sortV_perm l).trans hp) (sortV_sorted l)
theorem sortV_len (l : List (List UInt8)) : (sortV l).length = l.length := (sortV_perm l).length_eq
/-- the greater of what was found so far and another -/
def bestV (b v : List UInt8) : List UInt8 := if 0 < ordV v b then v else b
def greatV (b : List UInt8) (l : List (List UInt8)) : List UInt8 := l.foldl bestV b
theorem greatV_spec : ∀ (l : List (List UInt8)) (b : List UInt8), (greatV b l = b ∨ greatV b l ∈ l) ∧ leV b (greatV b l) = true ∧ ∀ v ∈ l, leV v (greatV b l) = true
  | [], b => ⟨.inl rfl, by unfold leV greatV; rw [List.foldl_nil, ord_o.refl]; rfl, fun v hv => by simp at hv⟩
  | x :: l, b => by
    obtain ⟨h1, h2, h3⟩ := greatV_spec l (bestV b x)
    have e : greatV b (x :: l) = greatV (bestV b x) l := rfl
    rw [e]
    have hb : leV b (bestV b x) = true ∧ leV x (bestV b x) = true ∧ (bestV b x = b ∨ bestV b x = x) := by
      have ha := ord_o.anti b x
      unfold bestV
      by_cases h : 0 < ordV x b
      · rw [if_pos h]
        unfold leV
        rw [decide_eq_true_eq, decide_eq_true_eq, ord_o.refl]
        exact ⟨by omega, by omega, .inr rfl⟩
      · rw [if_neg h]
        unfold leV
        rw [decide_eq_true_eq, decide_eq_true_eq, ord_o.refl]
        exact ⟨by omega, by omega, .inl rfl⟩
    refine ⟨?_, leV_trans _ _ _ hb.1 h2, fun v hv => ?_⟩
    · rcases h1 with h1 | h1
      · rcases hb.2.2 with h | h
        · exact .inl (h1.trans h)
        · exact .inr (by rw [h1, h]; exact List.mem_cons_self)
      · exact .inr (List.mem_cons_of_mem _ h1)
    · rcases List.mem_cons.1 hv with rfl | hv
      · exact leV_trans _ _ _ hb.2.1 h2
      · exact h3 v hv
/-- the greatest is the last one in order -/
theorem great_last (b : List UInt8) (l : List (List UInt8)) (h : sortV (b :: l) ≠ []) : (sortV (b :: l)).getLast h = greatV b l := by
  obtain ⟨h1, h2, h3⟩ := greatV_spec l b
  have hin : greatV b l ∈ b :: l := by
    rcases h1 with h1 | h1
    · rw [h1]; exact List.mem_cons_self
    · exact List.mem_cons_of_mem _ h1
  have hin2 : greatV b l ∈ sortV (b :: l) := (sortV_perm _).mem_iff.2 hin
  have hl : (sortV (b :: l)).getLast h ∈ b :: l := (sortV_perm _).mem_iff.1 (List.getLast_mem h)
  have hle : leV ((sortV (b :: l)).getLast h) (greatV b l) = true := by
    rcases List.mem_cons.1 hl with e | e
    · rw [e]; exact h2
    · exact h3 _ e
  have hge : leV (greatV b l) ((sortV (b :: l)).getLast h) = true := by
    have hs := sortV_sorted (b :: l)
    rw [← List.dropLast_concat_getLast h] at hs hin2
    rw [List.pairwise_append] at hs
    rcases List.mem_append.1 hin2 with e | e
    · exact hs.2.2 _ e _ (List.mem_singleton.2 rfl)
    · rw [List.mem_singleton.1 e]
      unfold leV; rw [ord_o.refl]; rfl
  exact leV_anti _ _ hle hge
end Nwl

namespace Go.Proofs.YtkccockdnjjanaaGreatDoor
open Nwl

theorem ret_bool {a b : Bool} (h : a = b) : Ending.returned (.bool a) = .returned (.bool b) := by rw [h]
theorem ret_str {a b : ByteArray} (h : a = b) : Ending.returned (.string a) = .returned (.string b) := by rw [h]

set_option maxHeartbeats 400000 in
theorem Space_c (c : Int) (w : World) :
    Calls Tryz.prog 91 #[.int .u8 c] w fun e w' => e = .returned (.bool (spaceI c)) ∧ w = w' := by
  go_enter Tryz.func91, Tryz.ntmps91
  go_wp2
  all_goals go_ret
  all_goals exact ⟨by simp [spaceI, *] <;> omega, rfl⟩

set_option maxHeartbeats 400000 in
theorem refSpace_c (c : Int) (w : World) :
    Calls Tryz.prog 64 #[.int .u8 c] w fun e w' => e = .returned (.bool (spaceI c)) ∧ w = w' := by
  go_enter Tryz.func64, Tryz.ntmps64
  go_wp2
  all_goals go_ret
  all_goals exact ⟨by simp [spaceI, *] <;> omega, rfl⟩

set_option maxHeartbeats 400000 in
theorem Digit_c (c : Int) (w : World) :
    Calls Tryz.prog 118 #[.int .u8 c] w fun e w' => e = .returned (.bool (digitI c)) ∧ w = w' := by
  go_enter Tryz.func118, Tryz.ntmps118
  go_wp2
  all_goals go_ret
  all_goals exact ⟨by simp [digitI, *] <;> omega, rfl⟩

set_option maxHeartbeats 400000 in
theorem refDigit_c (c : Int) (w : World) :
    Calls Tryz.prog 81 #[.int .u8 c] w fun e w' => e = .returned (.bool (digitI c)) ∧ w = w' := by
  go_enter Tryz.func81, Tryz.ntmps81
  go_wp2
  all_goals go_ret
  all_goals exact ⟨by simp [digitI, *] <;> omega, rfl⟩

set_option maxHeartbeats 400000 in
theorem upper_c (c : Int) (w : World) :
    Calls Tryz.prog 125 #[.int .u8 c] w fun e w' => e = .returned (.bool (upperI c)) ∧ w = w' := by
  go_enter Tryz.func125, Tryz.ntmps125
  go_wp2
  all_goals go_ret
  all_goals exact ⟨by simp [upperI, *] <;> omega, rfl⟩

set_option maxHeartbeats 400000 in
theorem letter_c (c : Int) (w : World) :
    Calls Tryz.prog 117 #[.int .u8 c] w fun e w' => e = .returned (.bool (letterI c)) ∧ w = w' := by
  go_enter Tryz.func117, Tryz.ntmps117
  go_wp2_with (first | (go_at_call 125; refine (upper_c _ _).mono ?_; rintro e w' ⟨rfl, rfl⟩))
  all_goals go_ret
  all_goals exact ⟨by simp [letterI, *] <;> omega, rfl⟩

set_option maxHeartbeats 400000 in
theorem begins_c (c : Int) (w : World) :
    Calls Tryz.prog 105 #[.int .u8 c] w fun e w' => e = .returned (.bool (beginI c)) ∧ w = w' := by
  go_enter Tryz.func105, Tryz.ntmps105
  go_wp2_with (first | (go_at_call 117; refine (letter_c _ _).mono ?_; rintro e w' ⟨rfl, rfl⟩))
  all_goals go_ret
  all_goals exact ⟨by simp [beginI, *] <;> omega, rfl⟩

set_option maxHeartbeats 400000 in
theorem continues_c (c : Int) (w : World) :
    Calls Tryz.prog 106 #[.int .u8 c] w fun e w' => e = .returned (.bool (withinI c)) ∧ w = w' := by
  go_enter Tryz.func106, Tryz.ntmps106
  go_wp2_with (first | (go_at_call 105; refine (begins_c _ _).mono ?_; rintro e w' ⟨rfl, rfl⟩) | (go_at_call 118; refine (Digit_c _ _).mono ?_; rintro e w' ⟨rfl, rfl⟩))
  all_goals go_ret
  all_goals exact ⟨by simp [withinI, *] <;> omega, rfl⟩

set_option maxHeartbeats 400000 in
theorem Allowed_c (c : Int) (w : World) :
    Calls Tryz.prog 65 #[.int .u8 c] w fun e w' => e = .returned (.bool (allowedI c)) ∧ w = w' := by
  go_enter Tryz.func65, Tryz.ntmps65
  go_wp2_with (first | (go_at_call 91; refine (Space_c _ _).mono ?_; rintro e w' ⟨rfl, rfl⟩))
  all_goals go_ret
  all_goals exact ⟨by simp [allowedI, *] <;> omega, rfl⟩

set_option maxHeartbeats 400000 in
theorem refAllowed_c (c : Int) (w : World) :
    Calls Tryz.prog 52 #[.int .u8 c] w fun e w' => e = .returned (.bool (allowedI c)) ∧ w = w' := by
  go_enter Tryz.func52, Tryz.ntmps52
  go_wp2_with (first | (go_at_call 64; refine (refSpace_c _ _).mono ?_; rintro e w' ⟨rfl, rfl⟩))
  all_goals go_ret
  all_goals exact ⟨by simp [allowedI, *] <;> omega, rfl⟩

set_option maxHeartbeats 400000 in
theorem refletter_c (c : Int) (w : World) :
    Calls Tryz.prog 50 #[.int .u8 c] w fun e w' => e = .returned (.bool (beginI c)) ∧ w = w' := by
  go_enter Tryz.func50, Tryz.ntmps50
  go_wp2
  all_goals go_ret
  all_goals exact ⟨ret_bool (by rw [Bool.eq_iff_iff]; simp [beginI, letterI, upperI]; omega), rfl⟩

set_option maxHeartbeats 400000 in
theorem refwithin_c (c : Int) (w : World) :
    Calls Tryz.prog 51 #[.int .u8 c] w fun e w' => e = .returned (.bool (withinI c)) ∧ w = w' := by
  go_enter Tryz.func51, Tryz.ntmps51
  go_wp2_with (first | (go_at_call 50; refine (refletter_c _ _).mono ?_; rintro e w' ⟨rfl, rfl⟩) | (go_at_call 81; refine (refDigit_c _ _).mono ?_; rintro e w' ⟨rfl, rfl⟩))
  all_goals go_ret
  all_goals exact ⟨by simp [withinI, *] <;> omega, rfl⟩

end Go.Proofs.YtkccockdnjjanaaGreatDoor

namespace Go.Proofs.YtkccockdnjjanaaGreatDoor
open Nwl
open Go.RowKit (Hid intOf)

theorem size_pos_of (s : ByteArray) (h : ¬ s.toList = []) : 0 < s.size := by
  rcases Nat.eq_zero_or_pos s.size with h0 | h0
  · exfalso; apply h; rw [ByteArray.toList_eq]; apply List.eq_nil_of_length_eq_zero; simpa using h0
  · exact h0
theorem toList_ne_of (s : ByteArray) (h : 0 < s.size) : ¬ s.toList = [] := by
  intro e
  rw [ByteArray.toList_eq] at e
  have h2 : s.data.toList.length = s.size := by simp
  rw [e] at h2
  simp at h2
  omega
theorem toList_nil_of (s : ByteArray) (h : s.size = 0) : s.toList = [] := by
  rw [ByteArray.toList_eq]; apply List.eq_nil_of_length_eq_zero; simpa using h

set_option maxHeartbeats 400000 in
theorem Name_c (s : ByteArray) (w : World) (hs : s.size ≤ maxLen) :
    Calls Tryz.prog 83 #[.string s] w fun e w' => e = .returned (.bool (nameB s)) ∧ w = w' := by
  unfold maxLen at hs
  by_cases hp : 0 < s.size
  · have h1 : ¬ s.toList = [] := toList_ne_of s hp
    have h2 : s.toList.isEmpty = false := by simpa using h1
    cases hb : beginI s[0].toNat with
    | false =>
      have hn : Hid (nameB s = false) := Lib.hid (nameB_not fun ⟨_, h, _⟩ => by rw [hb] at h; cases h)
      go_enter Tryz.func83, Tryz.ntmps83
      go_wp2_with (go_at_call 105; refine (begins_c _ _).mono ?_; rintro e w' ⟨rfl, rfl⟩)
      go_ret
      exact ⟨ret_bool hn.out.symm, rfl⟩
    | true =>
      go_enter Tryz.func83, Tryz.ntmps83
      go_wp2_with (go_at_call 105; refine (begins_c _ _).mono ?_; rintro e w' ⟨rfl, rfl⟩)
      go_loop [3] (fun i => ∃ k : Nat, 1 ≤ k ∧ k ≤ s.size ∧ i = .int .i64 k ∧ WithinTo s 1 k) (fun i => s.size - (intOf i).toNat)
      case atStart => exact ⟨1, by omega, by omega, rfl, withinTo_start _ _⟩
      case round =>
        obtain ⟨k, hk1, hk, rfl, hw⟩ := hrel
        by_cases hlt : k < s.size
        · cases hc : withinI s[k].toNat with
          | false =>
            have hn : Hid (nameB s = false) := Lib.hid (nameB_not fun ⟨_, _, h⟩ => by have := h k hlt hk1 hlt; rw [hc] at this; cases this)
            go_wp2_with (go_at_call 106; refine (continues_c _ _).mono ?_; rintro e w' ⟨rfl, rfl⟩)
            go_ret
            exact ⟨ret_bool hn.out.symm, rfl⟩
          | true =>
            have hw' := withinTo_succ s 1 k hlt hw hc
            go_wp2_with (go_at_call 106; refine (continues_c _ _).mono ?_; rintro e w' ⟨rfl, rfl⟩)
            go_round
            case rel => exact ⟨k + 1, by omega, by omega, by go_num, hw'⟩
            case measure => simp [intOf]; omega
        · have hn : Hid (nameB s = true) := Lib.hid ((nameB_iff s).2 ⟨hp, hb, withinTo_end s 1 k hw (by omega)⟩)
          go_wp2
          go_ret
          exact ⟨ret_bool hn.out.symm, rfl⟩
  · have h1 : s.toList = [] := toList_nil_of s (by omega)
    have hn : Hid (nameB s = false) := Lib.hid (nameB_not fun ⟨h, _⟩ => hp h)
    go_enter Tryz.func83, Tryz.ntmps83
    go_wp2
    go_ret
    exact ⟨ret_bool hn.out.symm, rfl⟩

set_option maxHeartbeats 400000 in
theorem refName_c (s : ByteArray) (w : World) (hs : s.size ≤ maxLen) :
    Calls Tryz.prog 31 #[.string s] w fun e w' => e = .returned (.bool (nameB s)) ∧ w = w' := by
  unfold maxLen at hs
  by_cases hp : 0 < s.size
  · have h2 : ((s.size : Int) == 0) = false := beq_eq_false_iff_ne.2 (by omega)
    cases hb : beginI s[0].toNat with
    | false =>
      have hn : Hid (nameB s = false) := Lib.hid (nameB_not fun ⟨_, h, _⟩ => by rw [hb] at h; cases h)
      go_enter Tryz.func31, Tryz.ntmps31
      go_wp2_with (go_at_call 50; refine (refletter_c _ _).mono ?_; rintro e w' ⟨rfl, rfl⟩)
      go_ret
      exact ⟨ret_bool hn.out.symm, rfl⟩
    | true =>
      go_enter Tryz.func31, Tryz.ntmps31
      go_wp2_with (go_at_call 50; refine (refletter_c _ _).mono ?_; rintro e w' ⟨rfl, rfl⟩)
      go_loop [3] (fun i => ∃ k : Nat, k ≤ s.size ∧ i = .int .i64 k ∧ WithinTo s 0 k) (fun i => s.size - (intOf i).toNat)
      case atStart => exact ⟨0, by omega, rfl, withinTo_start _ _⟩
      case round =>
        obtain ⟨k, hk, rfl, hw⟩ := hrel
        by_cases hlt : k < s.size
        · cases hc : withinI s[k].toNat with
          | false =>
            have hn : Hid (nameB s = false) := Lib.hid (nameB_not fun ⟨h0, hbb, h⟩ => by
              by_cases e : k = 0
              · subst e; rw [begin_within _ hbb] at hc; cases hc
              · have := h k hlt (by omega) hlt; rw [hc] at this; cases this)
            go_wp2_with (go_at_call 51; refine (refwithin_c _ _).mono ?_; rintro e w' ⟨rfl, rfl⟩)
            go_ret
            exact ⟨ret_bool hn.out.symm, rfl⟩
          | true =>
            have hw' := withinTo_succ s 0 k hlt hw hc
            go_wp2_with (go_at_call 51; refine (refwithin_c _ _).mono ?_; rintro e w' ⟨rfl, rfl⟩)
            go_round
            case rel => exact ⟨k + 1, by omega, by go_num, hw'⟩
            case measure => simp [intOf]; omega
        · have hn : Hid (nameB s = true) := Lib.hid ((nameB_iff s).2 ⟨hp, hb, fun j hj _ _ => hw j hj (by omega) (by omega)⟩)
          go_wp2
          go_ret
          exact ⟨ret_bool hn.out.symm, rfl⟩
  · have h2 : ((s.size : Int) == 0) = true := beq_iff_eq.2 (by omega)
    have hn : Hid (nameB s = false) := Lib.hid (nameB_not fun ⟨h, _⟩ => hp h)
    go_enter Tryz.func31, Tryz.ntmps31
    go_wp2
    go_ret
    exact ⟨ret_bool hn.out.symm, rfl⟩

end Go.Proofs.YtkccockdnjjanaaGreatDoor

namespace Nwl
/-- from the beginning up to k all bytes are of a kind -/
def AllTo (p : UInt8 → Bool) (l : List UInt8) (k : Nat) : Prop := ∀ j (hj : j < l.length), j < k → p l[j] = true
theorem allTo_zero (p : UInt8 → Bool) (l : List UInt8) : AllTo p l 0 := fun j _ h => by omega
theorem allTo_succ {p : UInt8 → Bool} {l : List UInt8} {k : Nat} (h : AllTo p l k) (hk : k < l.length) (hc : p l[k] = true) : AllTo p l (k + 1) := by
  intro j hj h1
  by_cases e : j = k
  · subst e; exact hc
  · exact h j hj (by omega)
def allL (l : List UInt8) : Bool := l.all fun c => allowedI c.toNat
/-- from the beginning up to k all bytes are Allowed -/
theorem allL_of {l : List UInt8} {k : Nat} (h : AllTo (fun c => allowedI c.toNat) l k) (hk : l.length ≤ k) : allL l = true := by
  unfold allL
  rw [List.all_eq_true]
  intro c hc
  obtain ⟨j, hj, rfl⟩ := List.mem_iff_getElem.1 hc
  exact h j hj (by omega)
theorem allL_not {l : List UInt8} {k : Nat} (hk : k < l.length) (h : ∀ hk : k < l.length, allowedI (l[k]).toNat = false) : allL l = false := by
  cases e : allL l with
  | false => rfl
  | true =>
    unfold allL at e
    rw [List.all_eq_true] at e
    have := e _ (List.getElem_mem hk)
    rw [h hk] at this
    cases this
def AllowTo (s : ByteArray) (k : Nat) : Prop := AllTo (fun c => allowedI c.toNat) (bs s) k
theorem allowTo_zero (s : ByteArray) : AllowTo s 0 := allTo_zero _ _
theorem allowTo_succ {s : ByteArray} {k : Nat} (h : AllowTo s k) (hk : k < s.size) (hc : allowedI s[k].toNat = true) : AllowTo s (k + 1) := allTo_succ h (by rw [bs_length]; exact hk) hc
theorem allowTo_no {s : ByteArray} {k : Nat} (hk : k < s.size) (hc : allowedI s[k].toNat = false) : allL (bs s) = false := allL_not (by rw [bs_length]; exact hk) (fun _ => hc)
theorem allowTo_end {s : ByteArray} {k : Nat} (h : AllowTo s k) (hk : s.size ≤ k) : allL (bs s) = true := allL_of h (by rw [bs_length]; exact hk)
theorem bs_at (s : ByteArray) (k : Nat) (h : k < s.size) : ∃ c : UInt8, s[k] = c ∧ ∀ (p : UInt8 → Bool) (b : Bool), p c = b → ∀ h : k < (bs s).length, p (bs s)[k] = b :=
  ⟨s[k], rfl, fun _ _ e _ => e⟩
end Nwl

namespace Nwl
open Go (Lib.cut Lib.index Lib.contains Lib.hasPrefix Lib.encodeRune)

/-- the number of a digit -/
def digV (base : Nat) (c : UInt8) : Option Nat :=
  if digitI c.toNat then some (c.toNat - 48)
  else if base = 16 ∧ 97 ≤ c.toNat ∧ c.toNat ≤ 102 then some (c.toNat - 87)
  else if base = 16 ∧ 65 ≤ c.toNat ∧ c.toNat ≤ 70 then some (c.toNat - 55)
  else none
/-- the number of some digits, behind others -/
def valF (base : Nat) : Nat → List UInt8 → Option Nat
  | v, [] => some v
  | v, c :: r => match digV base c with
    | none => none
    | some d => valF base (v * base + d) r
def mayI (v : Int) : Bool := decide (v ≤ 1114111) && (decide (v < 55296) || decide (57343 < v)) && (decide (32 ≤ v) || v == 9 || v == 10 || v == 13)
def numL (base : Nat) (l : List UInt8) : Option Nat :=
  if l = [] ∨ 6 < l.length then none else match valF base 0 l with
    | none => none
    | some v => if mayI v then some v else none
/-- the character of what stands between "&" and ";" -/
def charL (b : List UInt8) : Option Nat :=
  if b = [108, 116] then some 60
  else if b = [103, 116] then some 62
  else if b = [97, 109, 112] then some 38
  else if b = [113, 117, 111, 116] then some 34
  else if b = [97, 112, 111, 115] then some 39
  else if Go.Lib.hasPrefix b [35, 120] then numL 16 (b.drop 2)
  else if Go.Lib.hasPrefix b [35] then numL 10 (b.drop 1)
  else none

/-- what is ahead of the first such text, and what is behind it -/
def cutL (sep l : List UInt8) : Option (List UInt8 × List UInt8) :=
  if 0 ≤ Go.Lib.index l sep then some (l.take (Go.Lib.index l sep).toNat, l.drop ((Go.Lib.index l sep).toNat + sep.length)) else none

def entF : Nat → List UInt8 → Option (List UInt8)
  | _, [] => some []
  | 0, _ :: _ => none
  | n + 1, c :: r =>
    if c = 38 then
      match cutL [59] r with
      | none => none
      | some (b, rest) => match charL b with
        | none => none
        | some v => (entF n rest).map (Go.Lib.encodeRune v ++ ·)
    else (entF n r).map (c :: ·)
/-- a text with its entities -/
def entL (l : List UInt8) : Option (List UInt8) := entF l.length l

structure Tok where
  kind : Nat
  name : List UInt8
  text : List UInt8
  attrs : List (List UInt8 × List UInt8)
  empty : Bool
  deriving DecidableEq

def skipL (l : List UInt8) : List UInt8 := l.dropWhile space8
def nameP (l : List UInt8) : List UInt8 × List UInt8 :=
  match l with
  | [] => ([], [])
  | c :: r => if beginI c.toNat then ((c :: r).takeWhile within8, (c :: r).dropWhile within8) else ([], c :: r)
def valueL (l : List UInt8) : Option (List UInt8 × List UInt8) :=
  match l with
  | [] => none
  | c :: r => if c = 34 ∨ c = 39 then
      match cutL [c] r with
      | none => none
      | some (raw, rest) => if raw.contains 60 then none else (entL raw).map (·, rest)
    else none
def attrL (l : List UInt8) : Option ((List UInt8 × List UInt8) × List UInt8) :=
  if (nameP l).1 = [] then none else
  match skipL (nameP l).2 with
  | [] => none
  | c :: r => if c = 61 then (valueL (skipL r)).map fun (v, rest) => (((nameP l).1, v), rest) else none
def attrsF : Nat → List (List UInt8 × List UInt8) → List UInt8 → Option (List (List UInt8 × List UInt8) × Bool × List UInt8)
  | 0, _, _ => none
  | n + 1, acc, l =>
    if Go.Lib.hasPrefix (skipL l) [62] then some (acc, false, (skipL l).drop 1)
    else if Go.Lib.hasPrefix (skipL l) [47, 62] then some (acc, true, (skipL l).drop 2)
    else if (skipL l).length = l.length then none
    else match attrL (skipL l) with
      | none => none
      | some (a, rest) => if (acc.map (·.1)).contains a.1 then none else attrsF n (acc ++ [a]) rest
/-- a beginning, behind its "<" -/
def openL (l : List UInt8) : Option (Tok × List UInt8) :=
  if (nameP l).1 = [] then none else
  (attrsF ((nameP l).2.length + 1) [] (nameP l).2).map fun (a, e, rest) => (⟨1, (nameP l).1, [], a, e⟩, rest)
def closeL (l : List UInt8) : Option (Tok × List UInt8) :=
  if (nameP l).1 = [] then none else
  if Go.Lib.hasPrefix (skipL (nameP l).2) [62] then some (⟨2, (nameP l).1, [], [], false⟩, (skipL (nameP l).2).drop 1) else none
def commentL (l : List UInt8) : Option (Tok × List UInt8) :=
  match cutL [45, 45, 62] l with
  | none => none
  | some (x, rest) => if Go.Lib.contains (x ++ [45]) [45, 45] then none else some (⟨4, [], x, [], false⟩, rest)
def textL (l : List UInt8) : Option (Tok × List UInt8) :=
  (entL (l.takeWhile (· != 60))).map fun x => (⟨3, [], x, [], false⟩, l.dropWhile (· != 60))
/-- one token -/
def tokL (first : Bool) (l : List UInt8) : Option (Tok × List UInt8) :=
  if Go.Lib.hasPrefix l [60, 33, 45, 45] then commentL (l.drop 4)
  else if Go.Lib.hasPrefix l [60, 33, 91, 67, 68, 65, 84, 65, 91] then (cutL [93, 93, 62] (l.drop 9)).map fun (x, rest) => (⟨3, [], x, [], false⟩, rest)
  else if Go.Lib.hasPrefix l [60, 63] then if first then (cutL [63, 62] (l.drop 2)).map fun (x, rest) => (⟨5, [], x, [], false⟩, rest) else none
  else if Go.Lib.hasPrefix l [60, 47] then closeL (l.drop 2)
  else if Go.Lib.hasPrefix l [60] then openL (l.drop 1)
  else textL l
def splitF : Nat → Bool → List UInt8 → Option (List Tok)
  | _, _, [] => some []
  | 0, _, _ :: _ => none
  | n + 1, first, c :: r => match tokL first (c :: r) with
    | none => none
    | some (t, rest) => (splitF n false rest).map (t :: ·)
/-- all tokens -/
def splitL (l : List UInt8) : Option (List Tok) := splitF l.length true l

example : splitL [60, 97, 62, 120, 60, 47, 97, 62] = some [⟨1, [97], [], [], false⟩, ⟨3, [], [120], [], false⟩, ⟨2, [97], [], [], false⟩] := by decide +kernel
example : splitL "<a b = \"c\" >x&amp;&#65;<!-- a - b --></a>".toUTF8.data.toList = some [⟨1, [97], [], [([98], [99])], false⟩, ⟨3, [], [120, 38, 65], [], false⟩, ⟨4, [], " a - b ".toUTF8.data.toList, [], false⟩, ⟨2, [97], [], [], false⟩] := by decide +kernel

end Nwl

namespace Nwl
open Go

theorem cutL_len {sep l a b : List UInt8} (h : cutL sep l = some (a, b)) : b.length + sep.length ≤ l.length ∨ b = [] := by
  unfold cutL at h
  split at h
  · simp only [Option.some.injEq, Prod.mk.injEq] at h
    obtain ⟨_, rfl⟩ := h
    rw [List.length_drop]
    by_cases e : (Lib.index l sep).toNat + sep.length ≤ l.length
    · left; omega
    · right; apply List.drop_eq_nil_of_le; omega
  · cases h
theorem cutL_le {sep l a b : List UInt8} (h : cutL sep l = some (a, b)) : b.length ≤ l.length := by
  rcases cutL_len h with h | rfl
  · omega
  · simp
theorem cutL_fst_le {sep l a b : List UInt8} (h : cutL sep l = some (a, b)) : a.length ≤ l.length := by
  unfold cutL at h
  split at h
  · simp only [Option.some.injEq, Prod.mk.injEq] at h
    obtain ⟨rfl, _⟩ := h
    rw [List.length_take]; omega
  · cases h

theorem entF_fuel : ∀ (n m : Nat) (l : List UInt8), l.length ≤ n → l.length ≤ m → entF n l = entF m l
  | n, m, [], _, _ => by cases n <;> cases m <;> rfl
  | 0, _, _ :: _, h, _ => by simp at h
  | _, 0, _ :: _, _, h => by simp at h
  | n + 1, m + 1, c :: r, hn, hm => by
    simp only [List.length_cons] at hn hm
    simp only [entF]
    split
    · split
      · rfl
      · rename_i b rest hc
        have := cutL_le hc
        split
        · rfl
        · rw [entF_fuel n m rest (by omega) (by omega)]
    · rw [entF_fuel n m r (by omega) (by omega)]
theorem entL_nil : entL [] = some [] := rfl
theorem entL_plain1 (c : UInt8) (r : List UInt8) (h : c ≠ 38) : entL (c :: r) = (entL r).map (c :: ·) := by
  simp only [entL, List.length_cons, entF, if_neg h]
/-- the entity behind its "&" -/
def entAt (r : List UInt8) : Option (List UInt8) :=
  match cutL [59] r with
  | none => none
  | some (b, rest) => match charL b with
    | none => none
    | some v => (entL rest).map (Lib.encodeRune v ++ ·)
theorem entL_amp (r : List UInt8) : entL (38 :: r) = entAt r := by
  simp only [entL, entAt, List.length_cons, entF, if_pos]
  cases hc : cutL [59] r with
  | none => rfl
  | some x =>
    obtain ⟨b, rest⟩ := x
    have := cutL_le hc
    simp only []
    cases charL b with
    | none => rfl
    | some v => simp only []; rw [entF_fuel r.length rest.length rest (by omega) (by omega)]
theorem entL_plain : ∀ (p rest : List UInt8), 38 ∉ p → entL (p ++ rest) = (entL rest).map (p ++ ·)
  | [], rest, _ => by simp
  | c :: p, rest, h => by
    simp only [List.mem_cons, not_or] at h
    rw [List.cons_append, entL_plain1 _ _ (fun e => h.1 e.symm), entL_plain p rest h.2, Option.map_map]
    rfl

theorem isPrefix_one (c : UInt8) (l : List UInt8) : [c].isPrefixOf l = true ↔ l[0]? = some c := by
  cases l with
  | nil => simp
  | cons x r =>
    show ((c == x) && ([] : List UInt8).isPrefixOf r) = true ↔ some x = some c
    rw [List.isPrefixOf, Bool.and_true, beq_iff_eq, Option.some.injEq]
    exact eq_comm
theorem occ_one (l : List UInt8) (c : UInt8) (j : Nat) : Lib.occAt l [c] j = true ↔ l[j]? = some c := by
  unfold Lib.occAt
  rw [isPrefix_one, List.getElem?_drop, Nat.add_zero]
/-- where a byte stands first -/
theorem index_one (l : List UInt8) (c : UInt8) : (Lib.index l [c] = -1 ∧ c ∉ l) ∨ (∃ k : Nat, Lib.index l [c] = k ∧ k < l.length ∧ l = l.take k ++ c :: l.drop (k + 1) ∧ c ∉ l.take k) := by
  rcases Lib.index_spec l [c] with ⟨h, hn⟩ | ⟨k, h, hk, ho, hn⟩
  · refine .inl ⟨h, fun hm => ?_⟩
    obtain ⟨j, hj, e⟩ := List.mem_iff_getElem.1 hm
    have := hn j (by omega)
    rw [(occ_one l c j).2 (by rw [List.getElem?_eq_getElem hj, e])] at this
    cases this
  · have hc := (occ_one l c k).1 ho
    obtain ⟨hlt, e⟩ := List.getElem?_eq_some_iff.1 hc
    refine .inr ⟨k, h, hlt, ?_, fun hm => ?_⟩
    · have := List.take_append_drop k l
      rw [List.drop_eq_getElem_cons hlt, e] at this
      exact this.symm
    · obtain ⟨j, hj, e2⟩ := List.mem_iff_getElem.1 hm
      rw [List.length_take] at hj
      have := hn j (by omega)
      rw [(occ_one l c j).2 (by rw [List.getElem?_eq_getElem (by omega)]; rw [List.getElem_take] at e2; rw [e2])] at this
      cases this
theorem cut_amp_none {l : List UInt8} (h : ¬ 0 ≤ Lib.index l [38]) : entL l = some l := by
  rcases index_one l 38 with ⟨_, hn⟩ | ⟨k, hk, _⟩
  · have := entL_plain l [] hn
    rw [List.append_nil] at this
    rw [this, entL_nil]
    simp
  · omega
theorem cut_amp_some {l : List UInt8} (h : 0 ≤ Lib.index l [38]) : entL l = (entAt (l.drop ((Lib.index l [38]).toNat + 1))).map (l.take (Lib.index l [38]).toNat ++ ·) := by
  rcases index_one l 38 with ⟨h1, _⟩ | ⟨k, hk, hlt, hl, hn⟩
  · omega
  · rw [hk, Int.toNat_natCast]
    conv => lhs; rw [hl]
    rw [entL_plain _ _ hn, entL_amp]

theorem skipL_le (l : List UInt8) : (skipL l).length ≤ l.length := (List.dropWhile_sublist _).length_le
theorem nameP_le (l : List UInt8) : (nameP l).2.length ≤ l.length := by
  unfold nameP
  cases l with
  | nil => simp
  | cons c r =>
    simp only []
    split
    · exact (List.dropWhile_sublist _).length_le
    · simp
theorem nameP_lt {l : List UInt8} (h : (nameP l).1 ≠ []) : (nameP l).2.length < l.length := by
  unfold nameP at *
  cases l with
  | nil => simp at h
  | cons c r =>
    simp only [] at *
    split
    · rename_i hb
      have hw : within8 c = true := begin_within _ hb
      show (List.dropWhile within8 (c :: r)).length < _
      rw [List.dropWhile_cons, if_pos hw, List.length_cons]
      have := (List.dropWhile_sublist (l := r) within8).length_le
      omega
    · rename_i hb
      rw [if_neg hb] at h
      simp at h
theorem valueL_le {l v rest : List UInt8} (h : valueL l = some (v, rest)) : rest.length ≤ l.length := by
  unfold valueL at h
  cases l with
  | nil => cases h
  | cons c r =>
    simp only [] at h
    split at h
    · cases hc : cutL [c] r with
      | none => rw [hc] at h; cases h
      | some x =>
        obtain ⟨raw, rs⟩ := x
        rw [hc] at h
        simp only [] at h
        split at h
        · cases h
        · cases he : entL raw with
          | none => rw [he] at h; simp at h
          | some y =>
            rw [he] at h
            simp only [Option.map_some, Option.some.injEq, Prod.mk.injEq] at h
            have := cutL_le hc
            rw [← h.2, List.length_cons]
            omega
    · cases h
theorem attrL_lt {l rest : List UInt8} {a : List UInt8 × List UInt8} (h : attrL l = some (a, rest)) : rest.length < l.length := by
  unfold attrL at h
  split at h
  · cases h
  · rename_i hn
    have h1 := nameP_lt hn
    have h2 := skipL_le (nameP l).2
    cases hs : skipL (nameP l).2 with
    | nil => rw [hs] at h; cases h
    | cons c r =>
      rw [hs] at h h2
      simp only [List.length_cons] at h h2
      split at h
      · cases hv : valueL (skipL r) with
        | none => rw [hv] at h; cases h
        | some x =>
          obtain ⟨v, rs⟩ := x
          rw [hv] at h
          simp only [Option.map_some, Option.some.injEq, Prod.mk.injEq] at h
          have h3 := valueL_le hv
          have h4 := skipL_le r
          rw [← h.2]
          omega
      · cases h
theorem attrsF_fuel : ∀ (n m : Nat) (acc : List (List UInt8 × List UInt8)) (l : List UInt8), l.length < n → l.length < m → attrsF n acc l = attrsF m acc l
  | 0, _, _, _, h, _ => by omega
  | _, 0, _, _, _, h => by omega
  | n + 1, m + 1, acc, l, hn, hm => by
    simp only [attrsF]
    split
    · rfl
    · split
      · rfl
      · split
        · rfl
        · cases ha : attrL (skipL l) with
          | none => rfl
          | some x =>
            obtain ⟨a, rest⟩ := x
            have h1 := attrL_lt ha
            have h2 := skipL_le l
            simp only []
            split
            · rfl
            · exact attrsF_fuel n m _ rest (by omega) (by omega)
/-- attributes, behind some others -/
def attrsL (acc : List (List UInt8 × List UInt8)) (l : List UInt8) : Option (List (List UInt8 × List UInt8) × Bool × List UInt8) := attrsF (l.length + 1) acc l
theorem attrsL_eq (acc : List (List UInt8 × List UInt8)) (l : List UInt8) : attrsL acc l =
    if Lib.hasPrefix (skipL l) [62] then some (acc, false, (skipL l).drop 1)
    else if Lib.hasPrefix (skipL l) [47, 62] then some (acc, true, (skipL l).drop 2)
    else if (skipL l).length = l.length then none
    else match attrL (skipL l) with
      | none => none
      | some (a, rest) => if (acc.map (·.1)).contains a.1 then none else attrsL (acc ++ [a]) rest := by
  unfold attrsL
  rw [attrsF]
  cases ha : attrL (skipL l) with
  | none => rfl
  | some x =>
    obtain ⟨a, rest⟩ := x
    have h1 := attrL_lt ha
    have h2 := skipL_le l
    simp only []
    rw [attrsF_fuel l.length (rest.length + 1) _ rest (by omega) (by omega)]
theorem attrsF_le : ∀ (n : Nat) (acc : List (List UInt8 × List UInt8)) (l : List UInt8) (a : List (List UInt8 × List UInt8)) (e : Bool) (rest : List UInt8), attrsF n acc l = some (a, e, rest) → rest.length ≤ l.length
  | 0, _, _, _, _, _, h => by cases h
  | n + 1, acc, l, a, e, rest, h => by
    simp only [attrsF] at h
    have h2 := skipL_le l
    split at h
    · simp only [Option.some.injEq, Prod.mk.injEq] at h
      rw [← h.2.2, List.length_drop]; omega
    · split at h
      · simp only [Option.some.injEq, Prod.mk.injEq] at h
        rw [← h.2.2, List.length_drop]; omega
      · split at h
        · cases h
        · cases ha : attrL (skipL l) with
          | none => rw [ha] at h; cases h
          | some x =>
            obtain ⟨b, rs⟩ := x
            rw [ha] at h
            simp only [] at h
            have h1 := attrL_lt ha
            split at h
            · cases h
            · have := attrsF_le n _ rs _ _ _ h
              omega
theorem openL_lt {l rest : List UInt8} {t : Tok} (h : openL l = some (t, rest)) : rest.length < l.length := by
  unfold openL at h
  split at h
  · cases h
  · rename_i hn
    have h1 := nameP_lt hn
    cases ha : attrsF ((nameP l).2.length + 1) [] (nameP l).2 with
    | none => rw [ha] at h; cases h
    | some x =>
      obtain ⟨a, e, rs⟩ := x
      rw [ha] at h
      simp only [Option.map_some, Option.some.injEq, Prod.mk.injEq] at h
      have := attrsF_le _ _ _ _ _ _ ha
      rw [← h.2]; omega
theorem closeL_lt {l rest : List UInt8} {t : Tok} (h : closeL l = some (t, rest)) : rest.length < l.length := by
  unfold closeL at h
  split at h
  · cases h
  · rename_i hn
    have h1 := nameP_lt hn
    have h2 := skipL_le (nameP l).2
    split at h
    · simp only [Option.some.injEq, Prod.mk.injEq] at h
      rw [← h.2, List.length_drop]; omega
    · cases h
theorem prefix_len {p l : List UInt8} (h : Lib.hasPrefix l p = true) : p.length ≤ l.length := by
  unfold Lib.hasPrefix at h
  exact (List.isPrefixOf_iff_prefix.1 h).length_le
theorem cutM_le {sep l : List UInt8} (k : Nat) (f : Nat) {t : Tok} {rest : List UInt8} (h : (cutL sep (l.drop k)).map (fun (x, rest) => ((⟨f, [], x, [], false⟩ : Tok), rest)) = some (t, rest)) (hk : 0 < k) (hl : 0 < l.length) : rest.length < l.length := by
  cases hc : cutL sep (l.drop k) with
  | none => rw [hc] at h; cases h
  | some x =>
    obtain ⟨a, b⟩ := x
    rw [hc] at h
    simp only [Option.map_some, Option.some.injEq, Prod.mk.injEq] at h
    have := cutL_le hc
    rw [List.length_drop] at this
    rw [← h.2]; omega
theorem tokL_lt {first : Bool} {l rest : List UInt8} {t : Tok} (h : tokL first l = some (t, rest)) (hl : 0 < l.length) : rest.length < l.length := by
  unfold tokL at h
  split at h
  · unfold commentL at h
    cases hc : cutL [45, 45, 62] (l.drop 4) with
    | none => rw [hc] at h; cases h
    | some x =>
      obtain ⟨a, b⟩ := x
      rw [hc] at h
      simp only [] at h
      have := cutL_le hc
      rw [List.length_drop] at this
      split at h
      · cases h
      · simp only [Option.some.injEq, Prod.mk.injEq] at h
        rw [← h.2]; omega
  · split at h
    · exact cutM_le 9 3 h (by omega) hl
    · split at h
      · split at h
        · exact cutM_le 2 5 h (by omega) hl
        · cases h
      · split at h
        · have := closeL_lt h
          rw [List.length_drop] at this; omega
        · split at h
          · have := openL_lt h
            rw [List.length_drop] at this; omega
          · rename_i hp
            unfold textL at h
            cases he : entL (l.takeWhile (· != 60)) with
            | none => rw [he] at h; cases h
            | some x =>
              rw [he] at h
              simp only [Option.map_some, Option.some.injEq, Prod.mk.injEq] at h
              rw [← h.2]
              cases l with
              | nil => simp at hl
              | cons c r =>
                have hc : (c != 60) = true := by
                  rw [bne_iff_ne]
                  intro e
                  apply hp
                  subst e
                  simp [Lib.hasPrefix]
                rw [List.dropWhile_cons, if_pos hc, List.length_cons]
                have := (List.dropWhile_sublist (l := r) (· != 60)).length_le
                omega
theorem splitF_fuel : ∀ (n m : Nat) (first : Bool) (l : List UInt8), l.length ≤ n → l.length ≤ m → splitF n first l = splitF m first l
  | n, m, _, [], _, _ => by cases n <;> cases m <;> rfl
  | 0, _, _, _ :: _, h, _ => by simp at h
  | _, 0, _, _ :: _, _, h => by simp at h
  | n + 1, m + 1, first, c :: r, hn, hm => by
    simp only [splitF]
    cases ht : tokL first (c :: r) with
    | none => rfl
    | some x =>
      obtain ⟨t, rest⟩ := x
      have := tokL_lt ht (by simp)
      simp only [List.length_cons] at hn hm this
      simp only []
      rw [splitF_fuel n m false rest (by omega) (by omega)]
/-- tokens, from a place on -/
def splitM (first : Bool) (l : List UInt8) : Option (List Tok) := splitF l.length first l
theorem splitM_nil (first : Bool) : splitM first [] = some [] := rfl
theorem splitM_step {first : Bool} {l : List UInt8} (h : l ≠ []) : splitM first l = match tokL first l with
    | none => none
    | some (t, rest) => (splitM false rest).map (t :: ·) := by
  cases l with
  | nil => exact absurd rfl h
  | cons c r =>
    unfold splitM
    simp only [List.length_cons, splitF]
    cases ht : tokL first (c :: r) with
    | none => rfl
    | some x =>
      obtain ⟨t, rest⟩ := x
      have := tokL_lt ht (by simp)
      simp only [List.length_cons] at this
      simp only []
      rw [splitF_fuel r.length rest.length false rest (by omega) (by omega)]

end Nwl

namespace Nwl

/-- a token with any number as its kind -/
structure Tki where
  kind : Int
  name : List UInt8
  text : List UInt8
  attrs : List (List UInt8 × List UInt8)
  empty : Bool
  deriving DecidableEq
def Tok.up (t : Tok) : Tki := ⟨t.kind, t.name, t.text, t.attrs, t.empty⟩

structure Nd where
  parent : Int
  name : List UInt8
  text : List UInt8
  attrs : List (List UInt8 × List UInt8)
  deriving DecidableEq

/-- a tree that is not whole yet: its nodes, the places of the open ones (the innermost one last), and the text that is under way behind them -/
structure Gst where
  pre : List Nd
  opn : List Nat
  run : List UInt8
  deriving DecidableEq

/-- the place of the innermost one -/
def innerL (o : List Nat) : Int := match o.getLast? with
  | none => -1
  | some p => p
theorem innerL_nil : innerL [] = -1 := rfl
theorem innerL_snoc (o : List Nat) (p : Nat) : innerL (o ++ [p]) = p := by simp [innerL]
theorem innerL_ne {o : List Nat} (h : o ≠ []) : innerL o = (o[o.length - 1]'(by have := List.length_pos_iff.2 h; omega) : Nat) := by
  unfold innerL
  rw [List.getLast?_eq_some_getLast h, List.getLast_eq_getElem h]
/-- the nodes as they lie -/
def Gst.mem (g : Gst) : List Nd := if g.run = [] then g.pre else g.pre ++ [⟨innerL g.opn, [], [], []⟩]
/-- the nodes with the text under way -/
def Gst.settled (g : Gst) : List Nd := if g.run = [] then g.pre else g.pre ++ [⟨innerL g.opn, [], g.run, []⟩]
theorem Gst.len (g : Gst) : g.settled.length = g.mem.length := by unfold settled mem; split <;> simp
def nameAt (l : List Nd) (i : Nat) : List UInt8 := ((l[i]?).map (·.name)).getD []

def openG (g : Gst) (t : Tki) : Except Int Gst :=
  if t.name = [] then .error 5
  else if g.opn = [] ∧ 0 < g.mem.length then .error 6
  else if 20 ≤ g.opn.length then .error 7
  else if 2000 ≤ g.mem.length then .error 3
  else .ok ⟨g.settled ++ [⟨innerL g.opn, t.name, [], t.attrs⟩], if t.empty then g.opn else g.opn ++ [g.mem.length], []⟩
def closeG (g : Gst) (n : List UInt8) : Except Int Gst :=
  match g.opn.getLast? with
  | none => .error 6
  | some p => if nameAt g.pre p = n then .ok ⟨g.settled, g.opn.dropLast, []⟩ else .error 6
def textG (g : Gst) (s : List UInt8) : Except Int Gst :=
  if g.opn = [] then (if trimL s = [] then .ok g else .error 6)
  else if s = [] then .ok g
  else if g.run = [] then (if 2000 ≤ g.mem.length then .error 3 else .ok ⟨g.pre, g.opn, s⟩)
  else .ok ⟨g.pre, g.opn, g.run ++ s⟩
/-- one token more -/
def growG (g : Gst) (t : Tki) : Except Int Gst :=
  if t.kind = 4 ∨ t.kind = 5 then .ok g
  else if t.kind = 1 then openG g t
  else if t.kind = 2 then closeG g t.name
  else if t.kind = 3 then textG g t.text
  else .error 5
def endG (g : Gst) : Except Int (List Nd) := if g.mem = [] ∨ g.opn ≠ [] then .error 6 else .ok g.mem
def treeG : Gst → List Tki → Except Int (List Nd)
  | g, [] => endG g
  | g, t :: ts => match growG g t with
    | .error e => .error e
    | .ok g' => treeG g' ts
def Gst.none : Gst := ⟨[], [], []⟩
def treeL (ts : List Tki) : Except Int (List Nd) := treeG Gst.none ts
def errOf {α : Type} (x : Except Int α) : Int := match x with
  | .error e => e
  | .ok _ => 0
def nodesOf (x : Except Int (List Nd)) : List Nd := match x with
  | .error _ => []
  | .ok l => l

/-- what is so of each tree under way -/
structure Gst.Ok (g : Gst) : Prop where
  below : ∀ p ∈ g.opn, p < g.pre.length
  out : g.opn = [] → g.run = []
  few : g.mem.length ≤ 2000
  flat : g.opn.length ≤ 20
theorem Gst.none_ok : Gst.none.Ok := ⟨fun _ h => (nomatch h), fun _ => rfl, by simp [Gst.none, Gst.mem], by simp [Gst.none]⟩
theorem settled_ge (g : Gst) : g.pre.length ≤ g.settled.length := by unfold Gst.settled; split <;> simp
theorem openG_ok {g g' : Gst} {t : Tki} (h : g.Ok) (e : openG g t = .ok g') : g'.Ok := by
  unfold openG at e
  split at e
  · cases e
  · split at e
    · cases e
    · split at e
      · cases e
      · split at e
        · cases e
        · rename_i h1 h2 h3 h4
          injection e with e
          subst e
          have hg := settled_ge g
          have hl := g.len
          refine ⟨fun p hp => ?_, fun _ => rfl, ?_, ?_⟩
          · simp only [List.length_append, List.length_singleton]
            simp only at hp
            split at hp
            · have := h.below p hp; omega
            · rw [List.mem_append] at hp
              rcases hp with hp | hp
              · have := h.below p hp; omega
              · rw [List.mem_singleton] at hp; omega
          · simp only [Gst.mem, if_true, List.length_append, List.length_singleton]
            have : g.mem.length < 2000 := by omega
            omega
          · simp only
            split
            · omega
            · simp only [List.length_append, List.length_singleton]; omega
theorem closeG_ok {g g' : Gst} {n : List UInt8} (h : g.Ok) (e : closeG g n = .ok g') : g'.Ok := by
  unfold closeG at e
  split at e
  · cases e
  · split at e
    · injection e with e
      subst e
      have hg := settled_ge g
      have hl := g.len
      have hf := h.few
      refine ⟨fun p hp => ?_, fun _ => rfl, ?_, ?_⟩
      · have := h.below p (List.dropLast_subset _ hp)
        show p < g.settled.length
        omega
      · simp only [Gst.mem, if_true]
        omega
      · have := h.flat
        simp only [List.length_dropLast]; omega
    · cases e
theorem textG_ok {g g' : Gst} {s : List UInt8} (h : g.Ok) (e : textG g s = .ok g') : g'.Ok := by
  unfold textG at e
  split at e
  · split at e
    · injection e with e; subst e; exact h
    · cases e
  · rename_i hn
    split at e
    · injection e with e; subst e; exact h
    · rename_i hs
      split at e
      · rename_i hr
        split at e
        · cases e
        · rename_i hf
          injection e with e
          subst e
          refine ⟨h.below, fun e => absurd e hn, ?_, h.flat⟩
          unfold Gst.mem at hf ⊢
          rw [if_pos hr] at hf
          simp only [if_neg hs, List.length_append, List.length_singleton]
          omega
      · rename_i hr
        injection e with e
        subst e
        have hf := h.few
        refine ⟨h.below, fun e => absurd e hn, ?_, h.flat⟩
        unfold Gst.mem at hf ⊢
        rw [if_neg hr] at hf
        rw [if_neg (by simp [hs])]
        simpa using hf
theorem growG_ok {g g' : Gst} {t : Tki} (h : g.Ok) (e : growG g t = .ok g') : g'.Ok := by
  unfold growG at e
  split at e
  · injection e with e; subst e; exact h
  · split at e
    · exact openG_ok h e
    · split at e
      · exact closeG_ok h e
      · split at e
        · exact textG_ok h e
        · cases e

example : (nodesOf (treeL [⟨1, [97], [], [], false⟩, ⟨3, [], [120], [], false⟩, ⟨2, [97], [], [], false⟩])) = [⟨-1, [97], [], []⟩, ⟨0, [], [120], []⟩] := by decide +kernel
end Nwl

namespace Go.Proofs.YtkccockdnjjanaaGreatDoor
open Nwl
open Go.RowKit Go.Maps
set_option linter.unusedVariables false

theorem jump_mono {l : Nat} {J J' : Act → World → Prop} {Q : Exit → Act → World → Prop} (hj : ∀ a w, J a w → J' a w) : ∀ e a w, Exit.jump l J Q e a w → Exit.jump l J' Q e a w := by
  intro e a w h
  cases e <;> first | exact h | exact ⟨h.1, hj _ _ h.2⟩
/-- a scope whose label is jumped to: the way from the label is walked once -/
theorem wp_scope_again {P : Program} {c rest : Code} {a : Act} {w : World} {Q : Exit → Act → World → Prop} (l : Nat) (J : Act → World → Prop) (μ : Act → World → Nat) (hf : findLabel c l = some (Code.seq Code.skip rest))
    (pass : ∀ a w, J a w → rest.wp P (Exit.jump l (fun a' w' => J a' w' ∧ μ a' w' < μ a w) Q) a w)
    (first : Hid (∀ a w, J a w → rest.wp P (Exit.jump l J Q) a w) → c.wp P (Exit.jump l J Q) a w) : (Code.scope c).wp P Q a w :=
  wp_scope_jumps l J μ hf (first fun a w h => wp_mono (pass a w h) (jump_mono fun _ _ h => h.1)) (fun a w h => wp_seq (wp_skip (pass a w h)))
theorem grown_set (w : World) (g i : Nat) (v : Value) : w.grownBy (w.setCell ⟨g, i, none⟩ v) (some g) :=
  ⟨rfl, rfl, rfl, by simp [World.setCell], fun k _ hne => Below.heap_setCell _ _ _ _ (fun e => hne (by rw [e]))⟩
/-- block b is just these cells -/
def Blk (w : World) (b : Nat) (t : TypeId) (cs : Array Value) : Prop := w.heap[b]? = some (.cells cs t (0, 0))
theorem Blk.lt {w : World} {b : Nat} {t : TypeId} {cs : Array Value} (h : Blk w b t cs) : b < w.heap.size := by
  rcases Nat.lt_or_ge b w.heap.size with h' | h'
  · exact h'
  · unfold Blk at h; rw [Array.getElem?_eq_none h'] at h; cases h
theorem Blk.cell {w : World} {b : Nat} {t : TypeId} {cs : Array Value} (h : Blk w b t cs) (i : Nat) : w.cell? ⟨b, i, none⟩ = cs[i]? := Lib.cell_of_heap h i
theorem Blk.frozen {w : World} {b : Nat} {t : TypeId} {cs : Array Value} (h : Blk w b t cs) (i : Nat) : w.frozen? ⟨b, i, none⟩ = false := Lib.frozen_of_heap h i
theorem Blk.new (w : World) (t : TypeId) (cs : Array Value) : Blk (w.alloc (.cells cs t)) w.heap.size t cs := heap_alloc_new w _
theorem Blk.alloc {w : World} {b : Nat} {t : TypeId} {cs : Array Value} (h : Blk w b t cs) (o : Obj) : Blk (w.alloc o) b t cs := (Below.heap_alloc w o b h.lt).trans h
theorem Blk.below {w w' : World} {b : Nat} {t : TypeId} {cs : Array Value} (h : Blk w b t cs) (hb : Below w.heap.size w w') : Blk w' b t cs := (hb.block b h.lt).trans h
theorem Blk.grown {w w' : World} {b : Nat} {t : TypeId} {cs : Array Value} {row : Option Nat} (h : Blk w b t cs) (hb : w.grownBy w' row) (hg : some b ≠ row) : Blk w' b t cs := (hb.block b h.lt hg).trans h
theorem Blk.set {w : World} {b : Nat} {t : TypeId} {cs : Array Value} (h : Blk w b t cs) (i : Nat) (u : Value) : Blk (w.setCell ⟨b, i, none⟩ u) b t (cs.setIfInBounds i u) := by
  unfold Blk at h ⊢
  simp [World.setCell, Array.getElem?_modify, h]
theorem grown_set_new {w w' : World} {row : Option Nat} (h : w.grownBy w' row) {b i : Nat} (hb : w.heap.size ≤ b) (u : Value) : w.grownBy (w'.setCell ⟨b, i, none⟩ u) row :=
  ⟨h.os, h.tape, h.output, by have := h.size; simp [World.setCell]; omega, fun k hk hne => (Below.heap_setCell _ _ _ _ (show k ≠ b by omega)).trans (h.block k hk hne)⟩
theorem grown_after_alloc {w w' : World} {row : Option Nat} {o : Obj} (h : (w.alloc o).grownBy w' row) : w.grownBy w' row := (World.grownBy_alloc w o row).trans h
/-- attributes as cells -/
def attrCells (l : List (List UInt8 × List UInt8)) : List Value := l.flatMap fun a => [.string (tx a.1), .string (tx a.2)]
theorem own_ne {w : World} {base b : Nat} {e t : TypeId} {size n : Nat} {v : Value} {xs : List Value} {cs : Array Value} (h : w.ownsRow base e size v n xs) (hb : Blk w b t cs) (hne : e ≠ t) : v.ownBlock ≠ some b := by
  rcases h.2 with ⟨rfl, _⟩ | ⟨g', cap, cur, rfl, _, hh, _⟩
  · simp [Value.ownBlock]
  · intro he
    have : g' = b := by simpa [Value.ownBlock] using he
    subst this
    unfold Blk at hb
    rw [hh] at hb
    injection hb with hb
    injection hb with _ ht
    exact hne ht
theorem own_form {w : World} {base : Nat} {e : TypeId} {size n : Nat} {v : Value} {xs : List Value} (h : w.ownsRow base e size v n xs) : ∃ A c, v = .slice A n c := by
  rcases h.2 with ⟨rfl, rfl⟩ | ⟨g', cap, cur, rfl, _⟩
  · exact ⟨_, _, rfl⟩
  · exact ⟨_, _, rfl⟩
theorem Blk.set_far {w : World} {b b' i : Nat} {t : TypeId} {cs : Array Value} (h : Blk w b t cs) (hne : b ≠ b') (u : Value) : Blk (w.setCell ⟨b', i, none⟩ u) b t cs := (Below.heap_setCell w ⟨b', i, none⟩ u b hne).trans h
theorem cells_two_new (w : World) (x y : Value) (t : TypeId) : ∀ j u, [x, y][j]? = some u → (w.alloc (.cells #[x, y] t)).cell? ((⟨w.heap.size, 0, none⟩ : Addr).add j) = some u := by
  intro j u hj
  match j, hj with
  | 0, hj => simp at hj; subst hj; simp [Addr.add]
  | 1, hj => simp at hj; subst hj; simp [Addr.add]
  | j + 2, hj => simp at hj
theorem addr_add0' (b j : Nat) : (⟨b, 0, none⟩ : Addr).add j = ⟨b, j, none⟩ := by
  unfold Addr.add
  by_cases h : j = 0 <;> simp [h]
/-- a row that may be read: it lies below block B -/
def RowR (B : Nat) (w : World) (v : Value) (n size : Nat) (cs : List Value) : Prop :=
  cs.length = n * size ∧ ((∃ (A : Option Addr) (c : Nat), v = .slice A 0 c ∧ (A = none → c = 0)) ∧ n = 0 ∨ ∃ b o c : Nat, v = .slice (some ⟨b, o, none⟩) n c ∧ b < B ∧ n ≤ c ∧ ∀ j u, cs[j]? = some u → w.cell? ⟨b, o + j, none⟩ = some u)
theorem RowR.below {B : Nat} {w w' : World} {v : Value} {n size : Nat} {cs : List Value} (h : RowR B w v n size cs) (hb : Below B w w') : RowR B w' v n size cs := by
  refine ⟨h.1, ?_⟩
  rcases h.2 with h0 | ⟨b, o, c, hv, hB, hc, hr⟩
  · exact .inl h0
  · exact .inr ⟨b, o, c, hv, hB, hc, fun j u hu => (hb.cell (p := ⟨b, o + j, none⟩) hB).trans (hr j u hu)⟩
theorem RowR.form {B : Nat} {w : World} {v : Value} {n size : Nat} {cs : List Value} (h : RowR B w v n size cs) : ∃ (A : Option Addr) (c : Nat), v = .slice A n c := by
  rcases h.2 with ⟨⟨A, c, rfl, _⟩, rfl⟩ | ⟨b, o, c, rfl, _⟩
  · exact ⟨A, c, rfl⟩
  · exact ⟨_, c, rfl⟩
theorem RowR.some {B : Nat} {w : World} {v : Value} {n size : Nat} {cs : List Value} (h : RowR B w v n size cs) (hn : 0 < n) : ∃ b o c : Nat, v = .slice (some ⟨b, o, none⟩) n c ∧ b < B ∧ n ≤ c ∧ ∀ j u, cs[j]? = some u → w.cell? ⟨b, o + j, none⟩ = some u := by
  rcases h.2 with ⟨_, h0⟩ | h
  · omega
  · exact h
theorem RowR.of {B base : Nat} {w : World} {e : TypeId} {v : Value} {n size : Nat} {cs : List Value} (h : w.ownsRow base e size v n cs) (hB : w.heap.size ≤ B) : RowR B w v n size cs := by
  refine ⟨h.1, ?_⟩
  rcases h.2 with h0 | ⟨g, cap, cur, rfl, _, hh, hc, _⟩
  · exact .inl ⟨⟨_, 0, h0.1, fun _ => rfl⟩, h0.2⟩
  · refine .inr ⟨g, 0, cap, rfl, ?_, hc, fun j u hu => ?_⟩
    · have := (Array.getElem?_eq_some_iff.1 hh).1
      omega
    · have := h.cells (g := g) rfl j u hu
      rw [addr_add0'] at this
      rw [Nat.zero_add]
      exact this
theorem own_neF {w : World} {base b : Nat} {e t : TypeId} {size n : Nat} {v : Value} {xs : List Value} {cs : Array Value} {fz : Nat × Nat} (h : w.ownsRowF base e size v n xs) (hb : w.heap[b]? = some (.cells cs t fz)) (hne : e ≠ t) : v.ownBlock ≠ some b := by
  rcases h.2 with ⟨rfl, _⟩ | ⟨g', cap, cur, fz', rfl, _, hh, _⟩
  · simp [Value.ownBlock]
  · intro he
    have : g' = b := by simpa [Value.ownBlock] using he
    subst this
    rw [hh] at hb
    injection hb with hb
    injection hb with _ hb
    exact hne hb
/-- rows of unlike kinds lie apart -/
theorem apartF {w : World} {b1 b2 : Nat} {e1 e2 : TypeId} {s1 s2 n1 n2 : Nat} {v1 v2 : Value} {x1 x2 : List Value} (h1 : w.ownsRowF b1 e1 s1 v1 n1 x1) (h2 : w.ownsRowF b2 e2 s2 v2 n2 x2) (hne : e1 ≠ e2) : v1.ownBlock = none ∨ v1.ownBlock ≠ v2.ownBlock := by
  rcases h2.2 with ⟨rfl, _⟩ | ⟨g', cap, cur, fz, rfl, _, hh, _⟩
  · rcases hv : v1.ownBlock with _ | g
    · exact .inl rfl
    · exact .inr (by simp [Value.ownBlock])
  · exact .inr (own_neF h1 (b := g') (t := e2) (cs := cur) hh hne)
theorem setCell_grown (w : World) (b i : Nat) (u : Value) : w.grownBy (w.setCell ⟨b, i, none⟩ u) (some b) :=
  ⟨rfl, rfl, rfl, by simp [World.setCell], fun k _ hk => Below.heap_setCell w ⟨b, i, none⟩ u k (fun e => hk (by simp [e]))⟩
theorem Blk.apart {w : World} {k b : Nat} {t u : TypeId} {cs ds : Array Value} (h : Blk w k t cs) (h2 : Blk w b u ds) (hne : t ≠ u) : some k ≠ some b := fun e => by
  injection e with e
  subst e
  unfold Blk at h h2
  rw [h] at h2
  injection h2 with h2
  injection h2 with _ h2
  exact hne h2
theorem cells_one_new (w : World) (x : Value) (t : TypeId) : ∀ j u, [x][j]? = some u → (w.alloc (.cells #[x] t)).cell? ((⟨w.heap.size, 0, none⟩ : Addr).add j) = some u := by
  intro j u hj
  match j, hj with
  | 0, hj => simp at hj; subst hj; simp [Addr.add]
  | j + 1, hj => simp at hj
/-- nodes that may be read -/
def NdiCells (B : Nat) (w : World) : List Nd → List Value → Prop
  | [], cs => cs = []
  | n :: ns, cs => ∃ (av : Value) (tl : List Value), cs = [.int .i64 n.parent, .string (tx n.name), .string (tx n.text), av] ++ tl ∧ RowR B w av n.attrs.length 2 (attrCells n.attrs) ∧ NdiCells B w ns tl
theorem NdiCells.below {B : Nat} {w w' : World} (hb : Below B w w') : ∀ {ts : List Nd} {cs : List Value}, NdiCells B w ts cs → NdiCells B w' ts cs
  | [], _, h => h
  | t :: ts, _, ⟨av, tl, e, h1, h2⟩ => ⟨av, tl, e, h1.below hb, NdiCells.below hb h2⟩
theorem NdiCells.get {B : Nat} {w : World} : ∀ {ts : List Nd} {cs : List Value}, NdiCells B w ts cs → ∀ (i : Nat) (h : i < ts.length), ∃ av : Value, RowR B w av (ts[i]).attrs.length 2 (attrCells (ts[i]).attrs) ∧ cs[i * 4]? = some (.int .i64 (ts[i]).parent) ∧ cs[i * 4 + 1]? = some (.string (tx (ts[i]).name)) ∧ cs[i * 4 + 2]? = some (.string (tx (ts[i]).text)) ∧ cs[i * 4 + 3]? = some av
  | [], _, _, i, h => by simp at h
  | t :: ts, _, ⟨av, tl, e, h1, h2⟩, 0, _ => by subst e; exact ⟨av, h1, rfl, rfl, rfl, rfl⟩
  | t :: ts, _, ⟨av, tl, e, h1, h2⟩, i + 1, h => by
    subst e
    obtain ⟨v, hv, c0, c1, c2, c3⟩ := NdiCells.get h2 i (by simpa using h)
    have ar : (i + 1) * 4 = i * 4 + 4 := by omega
    refine ⟨v, hv, ?_, ?_, ?_, ?_⟩
    · rw [ar]; exact c0
    · rw [ar]; exact c1
    · rw [ar]; exact c2
    · rw [ar]; exact c3
def NodesR (B : Nat) (w : World) (v : Value) (ns : List Nd) : Prop := ∃ cs : List Value, RowR B w v ns.length 4 cs ∧ NdiCells B w ns cs
theorem NodesR.below {B : Nat} {w w' : World} {v : Value} {ts : List Nd} (h : NodesR B w v ts) (hb : Below B w w') : NodesR B w' v ts := by
  obtain ⟨cs, h1, h2⟩ := h
  exact ⟨cs, h1.below hb, h2.below hb⟩
theorem NodesR.at {B : Nat} {w : World} {A : Option Addr} {n c : Nat} {ts : List Nd} (h : NodesR B w (.slice A n c) ts) (k : Nat) (hk : k < ts.length) : ∃ (b o : Nat) (A2 : Option Addr) (l2 c2 : Nat), A = some ⟨b, o, none⟩ ∧ RowR B w (.slice A2 l2 c2) (ts[k]).attrs.length 2 (attrCells (ts[k]).attrs) ∧
    w.cell? ⟨b, o + k * 4, none⟩ = some (.int .i64 (ts[k]).parent) ∧ w.cell? ⟨b, o + k * 4 + 1, none⟩ = some (.string (tx (ts[k]).name)) ∧ w.cell? ⟨b, o + k * 4 + 2, none⟩ = some (.string (tx (ts[k]).text)) ∧ w.cell? ⟨b, o + k * 4 + 3, none⟩ = some (.slice A2 l2 c2) := by
  obtain ⟨cs, h1, h2⟩ := h
  obtain ⟨b, o, c', hv, _, _, hc⟩ := h1.some (by omega)
  injection hv with e1 e2 e3
  obtain ⟨av, hav, c0, c1, c2, c3⟩ := h2.get k hk
  obtain ⟨A2, c2', rfl⟩ := hav.form
  exact ⟨b, o, A2, _, c2', e1, hav, hc _ _ c0, hc _ _ c1, hc _ _ c2, hc _ _ c3⟩
theorem cells_one_new2 (w : World) (o : Obj) (x : Value) (t : TypeId) : ∀ j u, [x][j]? = some u → ((w.alloc o).alloc (.cells #[x] t)).cell? ((⟨w.heap.size + 1, 0, none⟩ : Addr).add j) = some u := by
  have := cells_one_new (w.alloc o) x t
  rwa [show (w.alloc o).heap.size = w.heap.size + 1 by simp] at this

theorem info_nd : (Tryz.prog.info? 32).map (fun i => (i.zero, i.size, i.bytes)) = some (some (.agg #[.int .i64 0, .string ⟨#[]⟩, .string ⟨#[]⟩, .slice none 0 0]), 4, 64) := by kernel_rfl
theorem cells_four_new (w : World) (x0 x1 x2 x3 : Value) (t : TypeId) : ∀ j u, [x0, x1, x2, x3][j]? = some u → (w.alloc (.cells #[x0, x1, x2, x3] t)).cell? ((⟨w.heap.size, 0, none⟩ : Addr).add j) = some u := by
  intro j u hj
  match j, hj with
  | 0, hj => simp at hj; subst hj; simp [Addr.add]
  | 1, hj => simp at hj; subst hj; simp [Addr.add]
  | 2, hj => simp at hj; subst hj; simp [Addr.add]
  | 3, hj => simp at hj; subst hj; simp [Addr.add]
  | j + 4, hj => simp at hj
theorem four_oneCell (k : Int) (a b : ByteArray) (A : Option Addr) (l c : Nat) : ∀ u ∈ [Value.int .i64 k, Value.string a, Value.string b, Value.slice A l c], u.oneCell' = true := by
  intro u hu
  simp at hu
  rcases hu with rfl | rfl | rfl | rfl <;> rfl

end Go.Proofs.YtkccockdnjjanaaGreatDoor
