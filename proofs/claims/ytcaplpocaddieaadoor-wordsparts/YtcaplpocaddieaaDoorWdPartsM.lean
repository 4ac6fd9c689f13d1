/-
  Plain facts for WordsParts.
-/
import Derived.Test.YtcaplpocaddieaaDoorWdParts
namespace Nwl
theorem clean_id : ∀ ws : List Wd, (∀ w ∈ ws, noN w = false) → cleanW ws = ws
  | [], _ => rfl
  | w :: ws, h => by
    rw [cleanW, h w List.mem_cons_self, clean_id ws fun x hx => h x (List.mem_cons_of_mem _ hx)]
    rfl
def low26 (c : UInt8) : Bool := decide (97 ≤ (c.toNat : Int)) && decide ((c.toNat : Int) ≤ 122)
/-- the word that the law makes of a text's first k bytes -/
def wrd (l : List UInt8) (k : Nat) : List UInt8 := 119 :: (l.take k).filter low26
theorem wrd_up (s : ByteArray) (k : Nat) (hk : k < s.size) (h : low26 s[k] = true) : wrd (bs s) (k + 1) = wrd (bs s) k ++ [s[k]] := by
  unfold wrd
  have hl := bs_length s
  rw [← List.take_append_getElem (l := bs s) (i := k) (by omega), List.filter_append, bs_get s k hk]
  simp [h]
theorem wrd_stay (s : ByteArray) (k : Nat) (hk : k < s.size) (h : low26 s[k] = false) : wrd (bs s) (k + 1) = wrd (bs s) k := by
  unfold wrd
  have hl := bs_length s
  rw [← List.take_append_getElem (l := bs s) (i := k) (by omega), List.filter_append, bs_get s k hk]
  simp [h]
theorem wrd_len (l : List UInt8) (k : Nat) : (wrd l k).length ≤ k + 1 := by
  unfold wrd
  have h1 := List.length_filter_le low26 (l.take k)
  have h2 := List.length_take_le k l
  simp only [List.length_cons]
  omega
theorem low26_let (c : UInt8) (h : low26 c = true) : dig8 c = false ∧ sep8 c = false ∧ low8 c = c := by
  unfold low26 at h
  simp at h
  refine ⟨?_, ?_, ?_⟩
  · unfold dig8 digitI
    rw [Bool.and_eq_false_iff, decide_eq_false_iff_not, decide_eq_false_iff_not]
    omega
  · unfold sep8 sepI
    rw [Bool.or_eq_false_iff, beq_eq_false_iff_ne, beq_eq_false_iff_ne]
    omega
  · unfold low8 upperI
    rw [if_neg]
    simp
    omega
theorem wrd_let (l : List UInt8) (k : Nat) : ∀ c ∈ wrd l k, low26 c = true := by
  intro c hc
  unfold wrd at hc
  rcases List.mem_cons.1 hc with rfl | hc
  · decide
  · exact (List.mem_filter.1 hc).2
theorem wordW_w (r : List UInt8) (d n : Bool) : wordW (119 :: r) d n = ⟨8, 119 :: r⟩ := by
  have h1 : namedK (119 :: r) = 8 := by
    unfold namedK
    simp
  have h2 : shortK (119 :: r) = 8 := by
    unfold shortK
    simp
  apply Go.Proofs.YtcaplpocaddieaaDoor.wordW_oth
  · rfl
  · unfold kindW
    rw [h1, h2]
    simp
/-- digits of a number from 1 on -/
structure Nz (X : List UInt8) : Prop where
  ne : X ≠ []
  dig : ∀ c ∈ X, dig8 c = true
  drop : ∀ Y, (X ++ Y).dropWhile is0 = X ++ Y
theorem dec_first : ((List.range 900).all fun n => match decF 9 (n + 1) with | c :: _ => !is0 c | [] => false) = true := by decide +kernel
theorem Nz.of (n : Nat) (h : n < 900) : Nz (decF 9 (n + 1)) := by
  have h1 := List.all_eq_true.1 dec_first n (List.mem_range.2 h)
  refine ⟨decF_ne 9 _ (by decide), dec_dig8 9 _, fun Y => ?_⟩
  cases hd : decF 9 (n + 1) with
  | nil => exact absurd hd (decF_ne 9 _ (by decide))
  | cons c r =>
    rw [hd] at h1
    simp at h1
    rw [List.cons_append, List.dropWhile_cons, if_neg (by rw [h1]; decide)]
theorem Nz.num {X : List UInt8} (h : Nz X) (d : Bool) : numW X d = if d then ⟨9, X⟩ else ⟨10, X⟩ := by
  have e := h.drop []
  rw [List.append_nil] at e
  have hne : X.isEmpty = false := by
    cases hx : X with
    | nil => exact absurd hx h.ne
    | cons => rfl
  rw [numW_eq, e, hne]
  rfl
theorem Nz.both {X Y : List UInt8} (h : Nz X) (h2 : Nz Y) : Nz (X ++ Y) := by
  refine ⟨?_, ?_, ?_⟩
  · intro e
    exact h.ne (List.append_eq_nil_iff.1 e).1
  · intro c hc
    rcases List.mem_append.1 hc with hc | hc
    · exact h.dig c hc
    · exact h2.dig c hc
  · intro Z
    rw [List.append_assoc]
    exact h.drop _
theorem Nz.hd {X : List UInt8} (h : Nz X) (T : List UInt8) : digHd (X ++ T) = true := by
  cases hx : X with
  | nil => exact absurd hx h.ne
  | cons c r => exact h.dig c (by rw [hx]; exact List.mem_cons_self)
theorem Nz.word {X : List UInt8} (h : Nz X) (d n : Bool) : wordW X d n = if d then ⟨9, X⟩ else ⟨10, X⟩ := by
  have e := h.hd []
  rw [List.append_nil] at e
  rw [← h.num d]
  exact Go.Proofs.YtcaplpocaddieaaDoor.wordW_num (by rw [e, Bool.or_true])
theorem Nz.tail {X : List UInt8} (h : Nz X) (T : List UInt8) (hT : digHd T = false) : tailP (X ++ T) = ⟨X, true, false⟩ :: tailP T := by
  have e : tailP (X ++ T) = partsD true (X ++ T) := by
    cases hx : X with
    | nil => exact absurd hx h.ne
    | cons c r =>
      have hc : dig8 c = true := h.dig c (by rw [hx]; exact List.mem_cons_self)
      have hs := dig_sep c hc
      show partsD (!(c.toNat == 46)) (if sep8 c then r ++ T else c :: (r ++ T)) = _
      have h46 : (c.toNat == 46) = false := by
        unfold dig8 digitI at hc
        simp at hc
        rw [beq_eq_false_iff_ne]
        omega
      rw [hs, h46]
      rfl
  rw [e, parts_dig true X T h.ne h.dig hT]
theorem parts_num {X : List UInt8} (h : Nz X) (T : List UInt8) (hT : digHd T = false) : partsL (X ++ T) = ⟨X, false, false⟩ :: tailP T := parts_dig false X T h.ne h.dig hT
theorem tail_word (r : List UInt8) (T : List UInt8) (d : Bool) (hr : ∀ c ∈ 119 :: r, low26 c = true) (hT : T = [] ∨ digHd T = true ∨ ∃ c T', T = c :: T' ∧ sep8 c = true) : partsD d ((119 :: r) ++ T) = ⟨119 :: r, d, digHd T⟩ :: tailP T :=
  parts_let d (119 :: r) T (by simp) (fun c hc => ⟨(low26_let c (hr c hc)).1, (low26_let c (hr c hc)).2.1⟩) hT
theorem lower_wrd (W : List UInt8) (h : ∀ c ∈ W, low26 c = true) : lowerL W = W := by
  unfold lowerL
  induction W with
  | nil => rfl
  | cons c x ih => rw [List.map_cons, (low26_let c (h c List.mem_cons_self)).2.2, ih fun d hd => h d (List.mem_cons_of_mem _ hd)]
theorem parts_three {X Y : List UInt8} (hX : Nz X) (hY : Nz Y) (r : List UInt8) (hr : ∀ c ∈ 119 :: r, low26 c = true) :
    splitW (X ++ (119 :: r) ++ Y) = [⟨10, X⟩, ⟨8, 119 :: r⟩, ⟨9, Y⟩] ∧ splitW (X ++ [45] ++ (119 :: r) ++ [45] ++ Y) = [⟨10, X⟩, ⟨8, 119 :: r⟩, ⟨9, Y⟩] ∧ splitW (X ++ [46] ++ (119 :: r) ++ [45] ++ Y) = [⟨10, X⟩, ⟨8, 119 :: r⟩, ⟨9, Y⟩] := by
  have l45 : lowerL [45] = [45] := rfl
  have l46 : lowerL [46] = [46] := rfl
  have hY0 : tailP Y = [⟨Y, true, false⟩] := by
    have := hY.tail [] rfl
    rw [List.append_nil] at this
    rw [this]; rfl
  have hdY : digHd Y = true := by have := hY.hd []; rwa [List.append_nil] at this
  have fin : ∀ ps : List Pt, ps.map wordP = [⟨10, X⟩, ⟨8, 119 :: r⟩, ⟨9, Y⟩] → cleanW (ps.map wordP) = [⟨10, X⟩, ⟨8, 119 :: r⟩, ⟨9, Y⟩] := by
    intro ps h
    rw [h]
    exact clean_id _ (by simp [noN])
  refine ⟨?_, ?_, ?_⟩
  · unfold splitW wordsL
    rw [lowerL_app, lowerL_app, lowerL_dig X hX.dig, lowerL_dig Y hY.dig, lower_wrd _ hr]
    apply fin
    rw [List.append_assoc, parts_num hX _ rfl]
    have e : tailP ((119 :: r) ++ Y) = partsD true ((119 :: r) ++ Y) := rfl
    rw [e, tail_word r Y true hr (.inr (.inl hdY)), hY0]
    simp only [List.map_cons, List.map_nil, wordP, hX.word, hY.word, wordW_w]
    rfl
  · unfold splitW wordsL
    rw [lowerL_app, lowerL_app, lowerL_app, lowerL_app, lowerL_dig X hX.dig, lowerL_dig Y hY.dig, lower_wrd _ hr, l45]
    apply fin
    rw [show X ++ [45] ++ (119 :: r) ++ [45] ++ Y = X ++ (45 :: ((119 :: r) ++ (45 :: Y))) by simp, parts_num hX _ rfl]
    have e : tailP (45 :: ((119 :: r) ++ (45 :: Y))) = partsD true ((119 :: r) ++ (45 :: Y)) := rfl
    rw [e, tail_word r (45 :: Y) true hr (.inr (.inr ⟨45, Y, rfl, rfl⟩))]
    have e2 : tailP (45 :: Y) = partsD true Y := rfl
    have e3 : partsD true Y = [⟨Y, true, false⟩] := by
      have := parts_dig true Y [] hY.ne hY.dig rfl
      rw [List.append_nil] at this
      rw [this]; rfl
    rw [e2, e3]
    simp only [List.map_cons, List.map_nil, wordP, hX.word, hY.word, wordW_w]
    rfl
  · unfold splitW wordsL
    rw [lowerL_app, lowerL_app, lowerL_app, lowerL_app, lowerL_dig X hX.dig, lowerL_dig Y hY.dig, lower_wrd _ hr, l45, l46]
    apply fin
    rw [show X ++ [46] ++ (119 :: r) ++ [45] ++ Y = X ++ (46 :: ((119 :: r) ++ (45 :: Y))) by simp, parts_num hX _ rfl]
    have e : tailP (46 :: ((119 :: r) ++ (45 :: Y))) = partsD false ((119 :: r) ++ (45 :: Y)) := rfl
    rw [e, tail_word r (45 :: Y) false hr (.inr (.inr ⟨45, Y, rfl, rfl⟩))]
    have e2 : tailP (45 :: Y) = partsD true Y := rfl
    have e3 : partsD true Y = [⟨Y, true, false⟩] := by
      have := parts_dig true Y [] hY.ne hY.dig rfl
      rw [List.append_nil] at this
      rw [this]; rfl
    rw [e2, e3]
    simp only [List.map_cons, List.map_nil, wordP, hX.word, hY.word, wordW_w]
    rfl
theorem parts_two {X Y : List UInt8} (hX : Nz X) (hY : Nz Y) :
    splitW (X ++ [46] ++ Y) = [⟨10, X⟩, ⟨10, Y⟩] ∧ splitW (X ++ [45] ++ Y) = [⟨10, X⟩, ⟨9, Y⟩] ∧ splitW (X ++ Y) = [⟨10, X ++ Y⟩] := by
  have l45 : lowerL [45] = [45] := rfl
  have l46 : lowerL [46] = [46] := rfl
  have e3 : ∀ d, partsD d Y = [⟨Y, d, false⟩] := fun d => by
    have := parts_dig d Y [] hY.ne hY.dig rfl
    rw [List.append_nil] at this
    rw [this]; rfl
  refine ⟨?_, ?_, ?_⟩
  · unfold splitW wordsL
    rw [lowerL_app, lowerL_app, lowerL_dig X hX.dig, lowerL_dig Y hY.dig, l46, List.append_assoc, parts_num hX _ rfl]
    have e : tailP ([46] ++ Y) = partsD false Y := rfl
    rw [e, e3]
    simp only [List.map_cons, List.map_nil, wordP, hX.word, hY.word]
    exact clean_id _ (by simp [noN])
  · unfold splitW wordsL
    rw [lowerL_app, lowerL_app, lowerL_dig X hX.dig, lowerL_dig Y hY.dig, l45, List.append_assoc, parts_num hX _ rfl]
    have e : tailP ([45] ++ Y) = partsD true Y := rfl
    rw [e, e3]
    simp only [List.map_cons, List.map_nil, wordP, hX.word, hY.word]
    exact clean_id _ (by simp [noN])
  · have hb := hX.both hY
    unfold splitW wordsL
    rw [lowerL_dig _ hb.dig]
    have := parts_num hb [] rfl
    rw [List.append_nil] at this
    rw [this]
    have e : tailP [] = [] := rfl
    rw [e]
    simp only [List.map_cons, List.map_nil, wordP, hb.word]
    exact clean_id _ (by simp [noN])
end Nwl
