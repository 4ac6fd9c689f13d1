/-
  Plain facts: the parts of texts that are put together.
-/
import Derived.Test.YthmlggglemnfgaaDoorBc
import Derived.Test.YthmlggglemnfgaaDoorGnDigits
namespace Nwl
/-- the parts behind a part -/
def tailP (T : List UInt8) : List Pt := if T.isEmpty then [] else partsD (dashL T) (nextL T)
/-- does T end a part that begins with h? -/
def endsP (h : UInt8) (T : List UInt8) : Bool := T.isEmpty || !partQ h (T.headD 0)
theorem takeWhile_pre (p : UInt8 → Bool) : ∀ (x T : List UInt8), (∀ c ∈ x, p c = true) → (T.isEmpty || !p (T.headD 0)) = true → (x ++ T).takeWhile p = x
  | [], [], _, _ => rfl
  | [], c :: T, _, h => by
    simp at h
    simp [h]
  | c :: x, T, hx, h => by
    rw [List.cons_append, List.takeWhile_cons, if_pos (hx c (List.mem_cons_self)), takeWhile_pre p x T (fun d hd => hx d (List.mem_cons_of_mem _ hd)) h]
theorem parts_pre (d : Bool) (h : UInt8) (x T : List UInt8) (hx : ∀ c ∈ h :: x, partQ h c = true) (hT : endsP h T = true) : partsD d ((h :: x) ++ T) = ⟨h :: x, d, digHd T⟩ :: tailP T := by
  have hn : partN ((h :: x) ++ T) = (h :: x).length := by
    unfold partN
    rw [show ((h :: x) ++ T).headD 0 = h from rfl, takeWhile_pre (partQ h) (h :: x) T hx hT]
  have hd : ((h :: x) ++ T).drop (partN ((h :: x) ++ T)) = T := by rw [hn]; exact List.drop_left
  have ht : ((h :: x) ++ T).take (partN ((h :: x) ++ T)) = h :: x := by rw [hn]; exact List.take_left
  cases T with
  | nil =>
    rw [partsD_end (by rw [hd]), ht]
    rfl
  | cons c T =>
    rw [partsD_step (by rw [hd]; simp), ht, hd]
    rfl
theorem dig_sep (c : UInt8) (h : dig8 c = true) : sep8 c = false := by
  unfold dig8 digitI at h
  simp at h
  unfold sep8 sepI
  rw [Bool.or_eq_false_iff, beq_eq_false_iff_ne, beq_eq_false_iff_ne]
  omega
theorem parts_dig (d : Bool) (x T : List UInt8) (h0 : x ≠ []) (hx : ∀ c ∈ x, dig8 c = true) (hT : digHd T = false) : partsD d (x ++ T) = ⟨x, d, false⟩ :: tailP T := by
  cases x with
  | nil => exact absurd rfl h0
  | cons h x =>
    have hh := hx h List.mem_cons_self
    rw [parts_pre d h x T ?_ ?_, hT]
    · intro c hc
      unfold partQ
      rw [dig_sep c (hx c hc), hx c hc, hh]; rfl
    · unfold endsP
      cases T with
      | nil => rfl
      | cons c T =>
        have : dig8 c = false := hT
        simp [partQ, this, hh]
theorem parts_let (d : Bool) (x T : List UInt8) (h0 : x ≠ []) (hx : ∀ c ∈ x, dig8 c = false ∧ sep8 c = false) (hT : T = [] ∨ digHd T = true ∨ ∃ c T', T = c :: T' ∧ sep8 c = true) : partsD d (x ++ T) = ⟨x, d, digHd T⟩ :: tailP T := by
  cases x with
  | nil => exact absurd rfl h0
  | cons h x =>
    have hh := (hx h List.mem_cons_self).1
    rw [parts_pre d h x T ?_ ?_]
    · intro c hc
      unfold partQ
      rw [(hx c hc).2, (hx c hc).1, hh]; rfl
    · unfold endsP
      rcases hT with rfl | hT | ⟨c, T', rfl, hs⟩
      · rfl
      · cases T with
        | nil => cases hT
        | cons c T =>
          have : dig8 c = true := hT
          simp [partQ, this, hh]
      · simp [partQ, hs]
theorem clean_noN (ns : List Wd) (h : ∀ w ∈ ns, noN w = true) : cleanW ns = [] := by
  induction ns with
  | nil => rfl
  | cons w ns ih =>
    rw [cleanW, ih (fun x hx => h x (List.mem_cons_of_mem _ hx)), h w List.mem_cons_self]
    rfl
theorem clean_app (ns : List Wd) (h : ∀ w ∈ ns, noN w = true) : ∀ ws : List Wd, cleanW (ws ++ ns) = cleanW ws
  | [] => clean_noN ns h
  | w :: ws => by rw [List.cons_append, cleanW, cleanW, clean_app ns h ws]
theorem low_dig (c : UInt8) (h : dig8 c = true) : low8 c = c := by
  unfold dig8 digitI at h
  simp at h
  unfold low8 upperI
  rw [if_neg]
  simp
  omega
theorem lowerL_dig (x : List UInt8) (h : ∀ c ∈ x, dig8 c = true) : lowerL x = x := by
  unfold lowerL
  induction x with
  | nil => rfl
  | cons c x ih => rw [List.map_cons, low_dig c (h c List.mem_cons_self), ih fun d hd => h d (List.mem_cons_of_mem _ hd)]
theorem lowerL_app (a b : List UInt8) : lowerL (a ++ b) = lowerL a ++ lowerL b := List.map_append
theorem dec_dig8 (k v : Nat) : ∀ c ∈ decF k v, dig8 c = true := by
  intro c hc
  have := decF_dig k v c hc
  unfold dig8 digitI
  simp
  omega

theorem wordW_dig (c : UInt8) (x : List UInt8) (d : Bool) (h : dig8 c = true) : wordW (c :: x) d false = numW (c :: x) d := by
  unfold wordW
  rw [if_pos (by show (false || dig8 c) = true; rw [h]; rfl)]
/-- two numbers, and what stands behind -/
theorem words_two (A B T : List UInt8) (hA : A ≠ []) (hB : B ≠ []) (dA : ∀ c ∈ A, dig8 c = true) (dB : ∀ c ∈ B, dig8 c = true) (hT : digHd T = false) : (partsL (A ++ 46 :: (B ++ T))).map wordP = numW A false :: numW B false :: (tailP T).map wordP := by
  have e1 : ∀ (x : List UInt8) (d : Bool), x ≠ [] → (∀ c ∈ x, dig8 c = true) → wordP ⟨x, d, false⟩ = numW x d := by
    intro x d h0 hx
    cases x with
    | nil => exact absurd rfl h0
    | cons c x => exact wordW_dig c x d (hx c List.mem_cons_self)
  unfold partsL
  rw [parts_dig false A (46 :: (B ++ T)) hA dA (by rfl)]
  have e2 : tailP (46 :: (B ++ T)) = partsD false (B ++ T) := rfl
  rw [e2, parts_dig false B T hB dB hT, List.map_cons, List.map_cons, e1 A false hA dA, e1 B false hB dB]
def moreN (i : Nat) : List UInt8 := [[46, 48], [45, 48], [46, 48, 46, 48], [45, 103, 97], [46, 102, 105, 110, 97, 108], [45, 114, 101, 108, 101, 97, 115, 101], [45, 71, 65, 46, 48], [46, 48, 48], [45, 48, 45, 103, 97]].getD i []
theorem more_all : ∀ i : Fin 9, digHd (lowerL (moreN i)) = false ∧ (tailP (lowerL (moreN i))).all (fun p => noN (wordP p)) = true := by decide +kernel
theorem zeros_more (A B : List UInt8) (i : Nat) (hi : i < 9) (hA : A ≠ []) (hB : B ≠ []) (dA : ∀ c ∈ A, dig8 c = true) (dB : ∀ c ∈ B, dig8 c = true) : splitW (A ++ [46] ++ B ++ moreN i) = splitW (A ++ [46] ++ B) := by
  obtain ⟨h1, h2⟩ := more_all ⟨i, hi⟩
  simp only at h1 h2
  have l46 : lowerL [46] = [46] := rfl
  unfold splitW wordsL
  rw [lowerL_app, lowerL_app, lowerL_app, lowerL_dig A dA, lowerL_dig B dB, l46]
  have e1 : A ++ [46] ++ B ++ lowerL (moreN i) = A ++ 46 :: (B ++ lowerL (moreN i)) := by simp
  have e2 : A ++ [46] ++ B = A ++ 46 :: (B ++ []) := by simp
  rw [e1, e2, words_two A B _ hA hB dA dB h1, words_two A B [] hA hB dA dB rfl]
  have e3 : numW A false :: numW B false :: (tailP (lowerL (moreN i))).map wordP = (numW A false :: numW B false :: (tailP []).map wordP) ++ (tailP (lowerL (moreN i))).map wordP := rfl
  rw [e3]
  refine clean_app _ ?_ _
  intro w hw
  obtain ⟨p, hp, rfl⟩ := List.mem_map.1 hw
  exact List.all_eq_true.1 h2 p hp
theorem numW_zero (A : List UInt8) (d : Bool) : numW (48 :: A) d = numW A d := by
  have h : (48 :: A).dropWhile is0 = A.dropWhile is0 := by rw [List.dropWhile_cons, if_pos (show is0 48 = true from rfl)]
  rw [numW_eq, numW_eq, h]
theorem zeros_ahead (A B : List UInt8) (hA : A ≠ []) (hB : B ≠ []) (dA : ∀ c ∈ A, dig8 c = true) (dB : ∀ c ∈ B, dig8 c = true) : splitW ([48] ++ (A ++ [46] ++ B)) = splitW (A ++ [46] ++ B) := by
  have l46 : lowerL [46] = [46] := rfl
  have l48 : lowerL [48] = [48] := rfl
  unfold splitW wordsL
  rw [lowerL_app, lowerL_app, lowerL_app, lowerL_dig A dA, lowerL_dig B dB, l46, l48]
  have e1 : [48] ++ (A ++ [46] ++ B) = (48 :: A) ++ 46 :: (B ++ []) := by simp
  have e2 : A ++ [46] ++ B = A ++ 46 :: (B ++ []) := by simp
  rw [e1, e2, words_two (48 :: A) B [] (by simp) hB (by
    intro c hc
    rcases List.mem_cons.1 hc with rfl | hc
    · rfl
    · exact dA c hc) dB rfl, words_two A B [] hA hB dA dB rfl, numW_zero]
theorem cleanW_len : ∀ ws : List Wd, (cleanW ws).length ≤ ws.length
  | [] => Nat.le_refl _
  | w :: ws => by
    have := cleanW_len ws
    rw [cleanW]
    split <;> simp <;> omega
theorem partsF_len : ∀ (f : Nat) (d : Bool) (l : List UInt8), (partsF f d l).length ≤ f
  | 0, _, _ => Nat.le_refl _
  | f + 1, d, l => by
    have := partsF_len f (dashL (l.drop (partN l))) (nextL (l.drop (partN l)))
    rw [partsF, List.length_cons]
    split <;> simp <;> omega
theorem splitW_len (l : List UInt8) : (splitW l).length ≤ l.length + 1 := by
  unfold splitW wordsL partsL partsD
  refine Nat.le_trans (cleanW_len _) ?_
  rw [List.length_map]
  refine Nat.le_trans (partsF_len _ _ _) ?_
  unfold lowerL
  rw [List.length_map]
  exact Nat.le_refl _
end Nwl
