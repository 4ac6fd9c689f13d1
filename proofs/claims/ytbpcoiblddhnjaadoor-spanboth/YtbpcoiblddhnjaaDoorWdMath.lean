/-
  Plain facts on versions, word by word (layer 5): nothing of the program.
-/
import Derived.Test.YtbpcoiblddhnjaaDoorChMath
namespace Nwl
set_option linter.unusedSimpArgs false

structure Wd where
  k : Nat
  t : List UInt8
  deriving DecidableEq
structure Pt where
  s : List UInt8
  dash : Bool
  num : Bool
  deriving DecidableEq

def mayV (c : Int) : Bool := decide (33 ≤ c) && decide (c ≤ 126) && !(c == 91 || c == 93 || c == 40 || c == 41 || c == 44)
def may8 (c : UInt8) : Bool := mayV c.toNat
def rightV (l : List UInt8) : Bool := decide (1 ≤ l.length) && decide (l.length ≤ 100) && l.all may8
def sepI (c : Int) : Bool := c == 46 || c == 45
def sep8 (c : UInt8) : Bool := sepI c.toNat
def dig8 (c : UInt8) : Bool := digitI c.toNat

/-- does x go on a part that begins with h? -/
def partQ (h x : UInt8) : Bool := !sep8 x && (dig8 x == dig8 h)
/-- how long the part at the head is -/
def partN (l : List UInt8) : Nat := (l.takeWhile (partQ (l.headD 0))).length
def digHd : List UInt8 → Bool
  | [] => false
  | c :: _ => dig8 c
def nextL : List UInt8 → List UInt8
  | [] => []
  | c :: r => if sep8 c then r else c :: r
def dashL : List UInt8 → Bool
  | [] => false
  | c :: _ => !(c.toNat == 46)
/-- the parts of a text, the first one behind a dash or not -/
def partsF : Nat → Bool → List UInt8 → List Pt
  | 0, _, _ => []
  | f + 1, d, l =>
    ⟨l.take (partN l), d, digHd (l.drop (partN l))⟩ :: (if (l.drop (partN l)).isEmpty then [] else partsF f (dashL (l.drop (partN l))) (nextL (l.drop (partN l))))
def partsD (d : Bool) (l : List UInt8) : List Pt := partsF (l.length + 1) d l
def partsL (l : List UInt8) : List Pt := partsD false l

def numW (s : List UInt8) (d : Bool) : Wd :=
  let t := s.dropWhile (fun c => c.toNat == 48)
  if t.isEmpty then ⟨6, []⟩ else if d then ⟨9, t⟩ else ⟨10, t⟩
def namedK (s : List UInt8) : Nat :=
  if s = [97, 108, 112, 104, 97] then 1 else if s = [98, 101, 116, 97] then 2 else if s = [109, 105, 108, 101, 115, 116, 111, 110, 101] then 3
  else if s = [114, 99] then 4 else if s = [99, 114] then 4 else if s = [115, 110, 97, 112, 115, 104, 111, 116] then 5
  else if s = [103, 97] then 6 else if s = [102, 105, 110, 97, 108] then 6 else if s = [114, 101, 108, 101, 97, 115, 101] then 6 else if s = [115, 112] then 7 else 8
def shortK (s : List UInt8) : Nat := if s = [97] then 1 else if s = [98] then 2 else if s = [109] then 3 else 8
def kindW (s : List UInt8) (num : Bool) : Nat := if num && namedK s == 8 then shortK s else namedK s
def wordW (s : List UInt8) (d num : Bool) : Wd :=
  if s.isEmpty || digHd s then numW s d else if kindW s num == 8 then ⟨8, s⟩ else ⟨kindW s num, []⟩
def wordP (p : Pt) : Wd := wordW p.s p.dash p.num

def noN (w : Wd) : Bool := w.k == 6
def wn (l : List Wd) : List Wd := (l.reverse.dropWhile noN).reverse
def softW (w : Wd) : Bool := w.k == 6 || w.k == 10
def stepW (acc : List Wd) (w : Wd) : List Wd := (if softW w then acc else wn acc) ++ [w]
def aheadW : List Wd → Bool
  | [] => false
  | w :: _ => softW w
def cleanW : List Wd → List Wd
  | [] => []
  | w :: ws => if noN w && !aheadW (cleanW ws) then cleanW ws else w :: cleanW ws
/-- the words of a text in small letters -/
def wordsL (l : List UInt8) : List Wd := cleanW ((partsL l).map wordP)
def splitW (l : List UInt8) : List Wd := wordsL (lowerL l)

theorem wn_nil : wn [] = [] := rfl
theorem wn_no (l : List Wd) (w : Wd) (h : noN w = true) : wn (l ++ [w]) = wn l := by simp [wn, h]
theorem wn_yes (l : List Wd) (w : Wd) (h : noN w = false) : wn (l ++ [w]) = l ++ [w] := by simp [wn, h]
theorem wn_clean : ∀ (ws : List Wd) (acc : List Wd), wn (ws.foldl stepW acc) = (if aheadW (cleanW ws) then acc else wn acc) ++ cleanW ws
  | [], acc => by simp [cleanW, aheadW]
  | w :: ws, acc => by
    rw [List.foldl_cons, wn_clean ws (stepW acc w)]
    cases hn : noN w with
    | true =>
      have hs : softW w = true := by unfold noN at hn; unfold softW; rw [hn]; rfl
      cases ha : aheadW (cleanW ws) with
      | true =>
        have e : cleanW (w :: ws) = w :: cleanW ws := by rw [cleanW, hn, ha]; rfl
        rw [e]; simp [stepW, hs, aheadW]
      | false =>
        have e : cleanW (w :: ws) = cleanW ws := by rw [cleanW, hn, ha]; rfl
        rw [e, ha]; simp [stepW, hs, wn_no _ _ hn]
    | false =>
      have e : cleanW (w :: ws) = w :: cleanW ws := by rw [cleanW, hn]; rfl
      rw [e]
      cases hs : softW w with
      | true => simp [stepW, hs, aheadW, wn_yes _ _ hn]
      | false => simp [stepW, hs, aheadW, wn_yes _ _ hn]

theorem nextL_le (r : List UInt8) : (nextL r).length ≤ r.length := by
  cases r with
  | nil => exact Nat.le_refl _
  | cons c r => simp only [nextL]; split <;> simp
theorem partN_le (l : List UInt8) : partN l ≤ l.length := by
  unfold partN
  exact (List.takeWhile_sublist _).length_le
theorem partN_zero {c : UInt8} {r : List UInt8} (h : sep8 c = true) : partN (c :: r) = 0 := by
  simp [partN, partQ, h]
theorem partN_pos {c : UInt8} {r : List UInt8} (h : sep8 c = false) : 0 < partN (c :: r) := by
  simp [partN, partQ, h]
theorem next_lt {l : List UInt8} (h : l.drop (partN l) ≠ []) : (nextL (l.drop (partN l))).length < l.length := by
  cases l with
  | nil => simp at h
  | cons c r =>
    cases hs : sep8 c with
    | true => rw [partN_zero hs]; simp [nextL, hs]
    | false =>
      have h1 := partN_pos (r := r) hs
      have h2 := nextL_le ((c :: r).drop (partN (c :: r)))
      have h3 : ((c :: r).drop (partN (c :: r))).length = (c :: r).length - partN (c :: r) := List.length_drop
      have h4 := partN_le (c :: r)
      have h5 : (c :: r).length = r.length + 1 := rfl
      omega
theorem partsF_more : ∀ (f g : Nat) (d : Bool) (l : List UInt8), l.length < f → l.length < g → partsF f d l = partsF g d l
  | 0, _, _, _, h, _ => by omega
  | _, 0, _, _, _, h => by omega
  | f + 1, g + 1, d, l, hf, hg => by
    rw [partsF, partsF]
    cases hr : (l.drop (partN l)).isEmpty with
    | true => rfl
    | false =>
      have hne : l.drop (partN l) ≠ [] := by intro e; rw [e] at hr; cases hr
      have := next_lt hne
      rw [if_neg (by decide), if_neg (by decide)]
      rw [partsF_more f g (dashL (l.drop (partN l))) (nextL (l.drop (partN l))) (by omega) (by omega)]
theorem partsD_end {d : Bool} {l : List UInt8} (h : l.drop (partN l) = []) : partsD d l = [⟨l.take (partN l), d, false⟩] := by
  unfold partsD; rw [partsF, h]; rfl
theorem partsD_step {d : Bool} {l : List UInt8} (h : l.drop (partN l) ≠ []) : partsD d l = ⟨l.take (partN l), d, digHd (l.drop (partN l))⟩ :: partsD (dashL (l.drop (partN l))) (nextL (l.drop (partN l))) := by
  unfold partsD
  rw [partsF]
  have hr : (l.drop (partN l)).isEmpty = false := by
    cases e : l.drop (partN l) with
    | nil => exact absurd e h
    | cons => rfl
  rw [hr, if_neg (by decide)]
  rw [partsF_more l.length ((nextL (l.drop (partN l))).length + 1) _ _ (next_lt h) (by omega)]

/-- the program's way: what is told so far, and the rest -/
def goW (acc : List Wd) (d : Bool) (l : List UInt8) : List Wd := wn (((partsD d l).map wordP).foldl stepW acc)
theorem goW_end {acc : List Wd} {d : Bool} {l : List UInt8} (h : l.drop (partN l) = []) : goW acc d l = wn (stepW acc (wordW (l.take (partN l)) d false)) := by
  unfold goW; rw [partsD_end h]; rfl
theorem goW_step {acc : List Wd} {d : Bool} {l : List UInt8} (h : l.drop (partN l) ≠ []) : goW acc d l = goW (stepW acc (wordW (l.take (partN l)) d (digHd (l.drop (partN l))))) (dashL (l.drop (partN l))) (nextL (l.drop (partN l))) := by
  unfold goW; rw [partsD_step h]; rfl
theorem goW_words (l : List UInt8) : goW [] false l = wordsL l := by
  unfold goW wordsL partsL
  rw [wn_clean]
  split <;> simp [wn_nil]

theorem takeWhile_take (p : UInt8 → Bool) : ∀ (l : List UInt8) (k : Nat) (_ : ∀ j (hj : j < l.length), j < k → p l[j] = true) (_ : ∀ (hk : k < l.length), p l[k] = false), l.takeWhile p = l.take k
  | [], k, _, _ => by simp
  | c :: r, 0, _, h2 => by
    have := h2 (by simp)
    simp only [List.getElem_cons_zero] at this
    simp [this]
  | c :: r, k + 1, h1, h2 => by
    have h0 := h1 0 (by simp) (by omega)
    simp only [List.getElem_cons_zero] at h0
    rw [List.takeWhile_cons, if_pos h0, List.take_succ_cons]
    rw [takeWhile_take p r k (fun j hj h => by have := h1 (j + 1) (by simp; omega) (by omega); simpa using this) (fun hk => by have := h2 (by simp; omega); simpa using this)]
/-- the part that begins at 'a' goes on up to k -/
def PartTo (s : ByteArray) (a k : Nat) : Prop := ∀ j (hj : j < s.size) (ha : a < s.size), a ≤ j → j < k → partQ s[a] s[j] = true
theorem partTo_start (s : ByteArray) (a : Nat) : PartTo s a a := fun j _ _ h1 h2 => by omega
theorem partTo_up (s : ByteArray) (a k : Nat) (hk : k < s.size) (ha : a < s.size) (h : PartTo s a k) (hq : partQ s[a] s[k] = true) : PartTo s a (k + 1) := by
  intro j hj ha' h1 h2
  by_cases e : j = k
  · subst e; exact hq
  · exact h j hj ha' h1 (by omega)
theorem partN_of (s : ByteArray) (a k : Nat) (hak : a ≤ k) (hks : k ≤ s.size) (h : PartTo s a k) (he : ∀ (hk : k < s.size), partQ (s[a]'(by omega)) s[k] = false) : partN ((bs s).drop a) = k - a := by
  have hl := bs_length s
  rcases Nat.lt_or_ge a s.size with ha | ha
  · have hd : ((bs s).drop a).headD 0 = s[a] := by
      rw [List.headD_eq_head?_getD, List.head?_drop, List.getElem?_eq_getElem (by omega)]
      rfl
    unfold partN
    rw [hd, takeWhile_take _ _ (k - a) ?_ ?_]
    · rw [List.length_take, List.length_drop, hl]; omega
    · intro j hj hjk
      rw [List.length_drop] at hj
      rw [List.getElem_drop]
      exact h (a + j) (by omega) ha (by omega) (by omega)
    · intro hk
      rw [List.length_drop] at hk
      rw [List.getElem_drop]
      have e : a + (k - a) = k := by omega
      simp only [e]
      exact he (by omega)
  · have : (bs s).drop a = [] := List.drop_eq_nil_of_le (by omega)
    rw [this]
    have : k = a := by omega
    subst this
    simp [partN]

/-- all bytes up to k may stand in a version -/
def MayTo (s : ByteArray) (k : Nat) : Prop := ∀ j (hj : j < s.size), j < k → mayV s[j].toNat = true
theorem mayTo_start (s : ByteArray) : MayTo s 0 := fun j _ h => by omega
theorem mayTo_up (s : ByteArray) (k : Nat) (hk : k < s.size) (h : MayTo s k) (hc : mayV s[k].toNat = true) : MayTo s (k + 1) := by
  intro j hj h2
  by_cases e : j = k
  · subst e; exact hc
  · exact h j hj (by omega)
theorem right_yes (s : ByteArray) (h0 : 1 ≤ s.size) (h1 : s.size ≤ 100) (h : MayTo s s.size) : rightV (bs s) = true := by
  unfold rightV
  simp only [Bool.and_eq_true, decide_eq_true_eq, List.all_eq_true, bs_length]
  refine ⟨⟨h0, h1⟩, fun c hc => ?_⟩
  obtain ⟨k, hk, rfl⟩ := (mem_bs s c).1 hc
  exact h k hk hk
theorem right_no (s : ByteArray) (k : Nat) (hk : k < s.size) (hc : mayV s[k].toNat = false) : rightV (bs s) = false := by
  unfold rightV
  have : (bs s).all may8 = false := by
    rw [List.all_eq_false]
    exact ⟨s[k], (mem_bs s _).2 ⟨k, hk, rfl⟩, by unfold may8; rw [hc]; decide⟩
  rw [this, Bool.and_false]
theorem right_long (s : ByteArray) (h : 100 < s.size) : rightV (bs s) = false := by
  unfold rightV
  rw [bs_length, decide_eq_false (by omega : ¬ s.size ≤ 100)]
  simp
theorem right_short (s : ByteArray) (h : s.size = 0) : rightV (bs s) = false := by
  unfold rightV
  rw [bs_length, decide_eq_false (by omega : ¬ 1 ≤ s.size)]
  simp
end Nwl
