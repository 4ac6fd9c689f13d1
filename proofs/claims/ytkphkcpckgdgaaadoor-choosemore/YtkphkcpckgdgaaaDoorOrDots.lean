/-
  Plain facts: versions of numbers between dots, with something behind them, and how they compare.
-/
import Derived.Test.YtkphkcpckgdgaaaDoorBa
import Derived.Test.YtkphkcpckgdgaaaDoorWdParts
namespace Nwl
open Go
set_option linter.unusedSimpArgs false
set_option linter.unusedVariables false

theorem thenI_zero (y : Int) : thenI 0 y = y := rfl
theorem wordsC_cons (x y : Wz) (a b : List Wz) : wordsC (x :: a) (y :: b) = thenI (cmpZ x y) (wordsC a b) := wordsC_step _ _
theorem wordsC_pre : ∀ (p a b : List Wz), wordsC (p ++ a) (p ++ b) = wordsC a b
  | [], _, _ => rfl
  | x :: p, a, b => by rw [List.cons_append, List.cons_append, wordsC_cons, ord_z.refl, thenI_zero, wordsC_pre p a b]
theorem cmpZ_six (x y : Wz) (h : x.k = 6) : cmpZ x y = cmpZ nZ y := by
  refine ord_z.same y ?_
  unfold cmpZ keyN keyT nZ
  rw [h]
  simp [thenI, Lib.compareInt, Lib.compareBytes]
theorem wordsC_ns : ∀ (ns b : List Wz), (∀ x ∈ ns, x.k = 6) → wordsC ns b = wordsC [] b
  | [], _, _ => rfl
  | x :: ns, b, h => by
    rw [wordsC_step (x :: ns) b, wordsC_step [] b]
    show thenI (cmpZ x (b.headD nZ)) (wordsC ns b.tail) = thenI (cmpZ nZ (b.headD nZ)) (wordsC [] b.tail)
    rw [cmpZ_six x _ (h x List.mem_cons_self), wordsC_ns ns b.tail fun y hy => h y (List.mem_cons_of_mem _ hy)]
theorem wordsC_padL : ∀ (a ns b : List Wz), (∀ x ∈ ns, x.k = 6) → wordsC (a ++ ns) b = wordsC a b
  | [], ns, b, h => wordsC_ns ns b h
  | x :: a, ns, b, h => by
    rw [List.cons_append, wordsC_step (x :: (a ++ ns)) b, wordsC_step (x :: a) b]
    show thenI (cmpZ x (b.headD nZ)) (wordsC (a ++ ns) b.tail) = thenI (cmpZ x (b.headD nZ)) (wordsC a b.tail)
    rw [wordsC_padL a ns b.tail h]
theorem wordsC_padR (a b ns : List Wz) (h : ∀ x ∈ ns, x.k = 6) : wordsC a (b ++ ns) = wordsC a b := by
  have h1 := ord_words.anti (b ++ ns) a
  have h2 := ord_words.anti b a
  rw [wordsC_padL b ns a h] at h1
  omega
theorem clean_soft : ∀ ws : List Wd, (∀ w ∈ ws, softW w = true) → ∃ ns, ws = cleanW ws ++ ns ∧ ∀ x ∈ ns, noN x = true
  | [], _ => ⟨[], rfl, fun x hx => by simp at hx⟩
  | w :: ws, h => by
    obtain ⟨ns, h1, h2⟩ := clean_soft ws fun x hx => h x (List.mem_cons_of_mem _ hx)
    rw [cleanW]
    cases hn : noN w with
    | false =>
      refine ⟨ns, ?_, h2⟩
      rw [if_neg (by simp)]
      rw [List.cons_append, ← h1]
    | true =>
      cases ha : aheadW (cleanW ws) with
      | true =>
        refine ⟨ns, ?_, h2⟩
        rw [if_neg (by simp)]
        rw [List.cons_append, ← h1]
      | false =>
        rw [if_pos (by simp)]
        have he : cleanW ws = [] := by
          cases hc : cleanW ws with
          | nil => rfl
          | cons x xs =>
            rw [hc] at ha
            have : x ∈ ws := by rw [h1, hc]; simp
            have := h x (List.mem_cons_of_mem _ this)
            exfalso
            rw [show aheadW (x :: xs) = softW x from rfl, this] at ha
            cases ha
        rw [he] at h1 ⊢
        refine ⟨w :: ns, by rw [h1]; rfl, fun x hx => ?_⟩
        rcases List.mem_cons.1 hx with rfl | hx
        · exact hn
        · exact h2 x hx
theorem noN_six {x : Wd} (h : noN x = true) : (Wz.of x).k = 6 := by
  unfold noN at h
  have := eq_of_beq h
  show (x.k : Int) = 6
  omega
theorem nsZ {ns : List Wd} (h : ∀ x ∈ ns, noN x = true) : ∀ x ∈ ns.map Wz.of, x.k = 6 := by
  intro x hx
  obtain ⟨y, hy, rfl⟩ := List.mem_map.1 hx
  exact noN_six (h y hy)
/-- of soft words those at the end that mean nothing play no part -/
theorem cleanC (ws vs : List Wd) (h1 : ∀ w ∈ ws, softW w = true) (h2 : ∀ w ∈ vs, softW w = true) : wordsC ((cleanW ws).map Wz.of) ((cleanW vs).map Wz.of) = wordsC (ws.map Wz.of) (vs.map Wz.of) := by
  obtain ⟨n1, e1, k1⟩ := clean_soft ws h1
  obtain ⟨n2, e2, k2⟩ := clean_soft vs h2
  conv => rhs; rw [e1, e2, List.map_append, List.map_append, wordsC_padL _ _ _ (nsZ k1), wordsC_padR _ _ _ (nsZ k2)]

/-- digits by their length, then one by one -/
def cmpD (a b : List UInt8) : Int := thenI (Lib.compareInt a.length b.length) (Lib.compareBytes a b)
theorem cb_snoc : ∀ (a b : List UInt8) (x y : UInt8), a.length = b.length → Lib.compareBytes (a ++ [x]) (b ++ [y]) = thenI (Lib.compareBytes a b) (Lib.compareBytes [x] [y])
  | [], [], _, _, _ => rfl
  | [], _ :: _, _, _, h => by simp at h
  | _ :: _, [], _, _, h => by simp at h
  | p :: a, q :: b, x, y, h => by
    have ih := cb_snoc a b x y (by simpa using h)
    rw [List.cons_append, List.cons_append, Lib.compareBytes, Lib.compareBytes, ih]
    split
    · rfl
    · split <;> rfl
theorem cb_one (x y : Nat) (hx : x < 10) (hy : y < 10) : Lib.compareBytes [digN x] [digN y] = Lib.compareInt x y := by
  unfold Lib.compareBytes Lib.compareBytes Lib.compareInt
  simp only [UInt8.lt_iff_toNat_lt, digN_nat x hx, digN_nat y hy]
  by_cases h1 : x < y
  · rw [if_pos (by omega), if_pos (by omega)]
  · by_cases h2 : y < x
    · rw [if_neg (by omega), if_pos (by omega), if_neg (by omega), if_pos (by omega)]
    · rw [if_neg (by omega), if_neg (by omega), if_neg (by omega), if_neg (by omega)]
theorem ci_lt {x y : Int} (h : x < y) : Lib.compareInt x y = -1 := by unfold Lib.compareInt; rw [if_pos h]
theorem ci_gt {x y : Int} (h : y < x) : Lib.compareInt x y = 1 := by unfold Lib.compareInt; rw [if_neg (by omega), if_pos h]
theorem ci_eq {x y : Int} (h : x = y) : Lib.compareInt x y = 0 := by unfold Lib.compareInt; rw [if_neg (by omega), if_neg (by omega)]
theorem ci_ten (v u : Nat) : Lib.compareInt v u = thenI (Lib.compareInt (v / 10 : Nat) (u / 10 : Nat)) (Lib.compareInt (v % 10 : Nat) (u % 10 : Nat)) := by
  have e1 : v = v / 10 * 10 + v % 10 := by omega
  have e2 : u = u / 10 * 10 + u % 10 := by omega
  rcases Nat.lt_trichotomy (v / 10) (u / 10) with h | h | h
  · rw [ci_lt (x := (v / 10 : Nat)) (by omega), ci_lt (by omega)]; rfl
  · rw [ci_eq (x := (v / 10 : Nat)) (by omega), thenI_zero]
    rcases Nat.lt_trichotomy (v % 10) (u % 10) with h' | h' | h'
    · rw [ci_lt (by omega), ci_lt (by omega)]
    · rw [ci_eq (by omega), ci_eq (by omega)]
    · rw [ci_gt (by omega), ci_gt (by omega)]
  · rw [ci_gt (x := (v / 10 : Nat)) (by omega), ci_gt (by omega)]; rfl
theorem cmp_dec : ∀ (k v u : Nat), v < 10 ^ k → u < 10 ^ k → 0 < k → cmpD (decF k v) (decF k u) = Lib.compareInt v u
  | 0, _, _, _, _, h => by omega
  | k + 1, v, u, hv, hu, _ => by
    have hk : 10 ≤ v ∨ 10 ≤ u → 0 < k := by
      intro h
      rcases Nat.eq_zero_or_pos k with e | e
      · subst e
        simp at hv hu
        omega
      · exact e
    rw [Nat.pow_succ] at hv hu
    unfold decF
    by_cases v1 : v < 10
    · rw [if_pos v1]
      by_cases u1 : u < 10
      · rw [if_pos u1]
        unfold cmpD
        rw [ci_eq (by rfl), thenI_zero, cb_one v u v1 u1]
      · rw [if_neg u1]
        unfold cmpD
        have := List.length_pos_iff.2 (decF_ne k (u / 10) (hk (.inr (by omega))))
        rw [ci_lt (by simp; omega), ci_lt (by omega)]
        rfl
    · rw [if_neg v1]
      have pk := hk (.inl (by omega))
      by_cases u1 : u < 10
      · rw [if_pos u1]
        unfold cmpD
        have := List.length_pos_iff.2 (decF_ne k (v / 10) pk)
        rw [ci_gt (by simp; omega), ci_gt (by omega)]
        rfl
      · rw [if_neg u1]
        have ih := cmp_dec k (v / 10) (u / 10) (by omega) (by omega) pk
        rw [ci_ten v u, ← ih]
        unfold cmpD
        rcases Nat.lt_trichotomy (decF k (v / 10)).length (decF k (u / 10)).length with h | h | h
        · rw [ci_lt (x := ((decF k (v / 10)).length : Nat)) (by omega), ci_lt (by simp; omega)]; rfl
        · rw [ci_eq (x := ((decF k (v / 10)).length : Nat)) (by omega), thenI_zero, ci_eq (by simp; omega), thenI_zero, cb_snoc _ _ _ _ h, cb_one _ _ (by omega) (by omega)]
        · rw [ci_gt (x := ((decF k (v / 10)).length : Nat)) (by omega), ci_gt (by simp; omega)]; rfl
theorem dec_head : ∀ (k v : Nat), 0 < v → v < 10 ^ k → ∃ c r, decF k v = c :: r ∧ is0 c = false
  | 0, v, h, hv => by simp at hv; omega
  | k + 1, v, h, hv => by
    rw [Nat.pow_succ] at hv
    unfold decF
    by_cases v1 : v < 10
    · rw [if_pos v1]
      refine ⟨digN v, [], rfl, ?_⟩
      unfold is0
      rw [beq_eq_false_iff_ne, digN_nat v v1]
      omega
    · rw [if_neg v1]
      obtain ⟨c, r, e, hc⟩ := dec_head k (v / 10) (by omega) (by omega)
      rw [e]
      exact ⟨c, r ++ [digN (v % 10)], rfl, hc⟩
/-- the word that a number behind a dot is -/
def numD (v : Nat) : Wd := if v = 0 then ⟨6, []⟩ else ⟨10, decF 9 v⟩
theorem numW_dec (v : Nat) (h : v < 10 ^ 9) : numW (decF 9 v) false = numD v := by
  unfold numD
  by_cases h0 : v = 0
  · subst h0; decide
  · rw [if_neg h0]
    obtain ⟨c, r, e, hc⟩ := dec_head 9 v (by omega) h
    rw [numW_eq, e, List.dropWhile_cons, hc]
    rfl
theorem numD_soft (v : Nat) : softW (numD v) = true := by unfold numD; split <;> rfl
def numZ (v : Nat) : Wz := Wz.of (numD v)
theorem numZ_zero : numZ 0 = nZ := rfl
theorem cmp_num (v u : Nat) (hv : v < 10 ^ 9) (hu : u < 10 ^ 9) : cmpZ (numZ v) (numZ u) = Lib.compareInt v u := by
  have hz : ∀ x : Nat, 0 < x → numZ x = ⟨10, decF 9 x⟩ := fun x hx => by unfold numZ numD; rw [if_neg (by omega)]; rfl
  rcases Nat.eq_zero_or_pos v with rfl | h1
  · rcases Nat.eq_zero_or_pos u with rfl | h2
    · rw [ord_z.refl, ci_eq rfl]
    · rw [hz u h2, numZ_zero, ci_lt (by omega)]; rfl
  · rcases Nat.eq_zero_or_pos u with rfl | h2
    · rw [hz v h1, numZ_zero, ci_gt (by omega)]; rfl
    · rw [hz v h1, hz u h2, ← cmp_dec 9 v u hv hu (by decide)]; rfl
/-- numbers between dots -/
def dotL : List Nat → List UInt8
  | [] => []
  | [x] => decF 9 x
  | x :: y :: r => decF 9 x ++ 46 :: dotL (y :: r)
theorem dotL_snoc : ∀ (xs : List Nat) (x : Nat), xs ≠ [] → dotL (xs ++ [x]) = dotL xs ++ [46] ++ decF 9 x
  | [], _, h => absurd rfl h
  | [y], x, _ => by show decF 9 y ++ 46 :: decF 9 x = _; simp [dotL]
  | y :: z :: r, x, _ => by
    have ih := dotL_snoc (z :: r) x (by simp)
    show decF 9 y ++ 46 :: dotL ((z :: r) ++ [x]) = _
    rw [ih]
    simp [dotL]
theorem wordP_dig (x : Nat) (hx : x < 10 ^ 9) : wordP ⟨decF 9 x, false, false⟩ = numD x := by
  rw [← numW_dec x hx]
  have hd := dec_dig8 9 x
  have hn := decF_ne 9 x (by decide)
  cases hc : decF 9 x with
  | nil => exact absurd hc hn
  | cons c r =>
    rw [hc] at hd
    exact wordW_dig c r false (hd c List.mem_cons_self)
theorem dots_parts : ∀ (xs : List Nat) (T : List UInt8), xs ≠ [] → (∀ x ∈ xs, x < 10 ^ 9) → digHd T = false → (partsD false (dotL xs ++ T)).map wordP = xs.map numD ++ (tailP T).map wordP
  | [], _, h, _, _ => absurd rfl h
  | [x], T, _, hx, hT => by
    show (partsD false (decF 9 x ++ T)).map wordP = _
    rw [parts_dig false (decF 9 x) T (decF_ne 9 x (by decide)) (dec_dig8 9 x) hT, List.map_cons, wordP_dig x (hx x List.mem_cons_self)]
    rfl
  | x :: y :: r, T, _, hx, hT => by
    have ih := dots_parts (y :: r) T (by simp) (fun z hz => hx z (List.mem_cons_of_mem _ hz)) hT
    have e : dotL (x :: y :: r) ++ T = decF 9 x ++ 46 :: (dotL (y :: r) ++ T) := by simp [dotL]
    rw [e, parts_dig false (decF 9 x) (46 :: (dotL (y :: r) ++ T)) (decF_ne 9 x (by decide)) (dec_dig8 9 x) rfl, List.map_cons, wordP_dig x (hx x List.mem_cons_self)]
    show numD x :: (partsD false (dotL (y :: r) ++ T)).map wordP = _
    rw [ih]
    rfl
theorem dotL_low : ∀ xs : List Nat, lowerL (dotL xs) = dotL xs
  | [] => rfl
  | [x] => lowerL_dig _ (dec_dig8 9 x)
  | x :: y :: r => by
    have ih := dotL_low (y :: r)
    show lowerL (decF 9 x ++ 46 :: dotL (y :: r)) = _
    rw [lowerL_app, lowerL_dig _ (dec_dig8 9 x)]
    show decF 9 x ++ 46 :: lowerL (dotL (y :: r)) = _
    rw [ih]
    rfl
/-- the words of numbers, and of what stands behind -/
theorem dots_split (xs : List Nat) (T : List UInt8) (h : xs ≠ []) (hx : ∀ x ∈ xs, x < 10 ^ 9) (hT : digHd (lowerL T) = false) : splitW (dotL xs ++ T) = cleanW (xs.map numD ++ (tailP (lowerL T)).map wordP) := by
  unfold splitW wordsL partsL
  rw [lowerL_app, dotL_low, dots_parts xs _ h hx hT]
theorem dots_cmp (xs ys : List Nat) (h1 : xs ≠ []) (h2 : ys ≠ []) (hx : ∀ x ∈ xs, x < 10 ^ 9) (hy : ∀ x ∈ ys, x < 10 ^ 9) : cmpV (dotL xs) (dotL ys) = wordsC (xs.map numZ) (ys.map numZ) := by
  have e1 := dots_split xs [] h1 hx rfl
  have e2 := dots_split ys [] h2 hy rfl
  rw [List.append_nil] at e1 e2
  have t : (tailP (lowerL [])).map wordP = [] := rfl
  rw [t, List.append_nil] at e1 e2
  unfold cmpV spZ
  rw [e1, e2, cleanC]
  · rw [List.map_map, List.map_map]; rfl
  · intro w hw
    obtain ⟨x, _, rfl⟩ := List.mem_map.1 hw
    exact numD_soft x
  · intro w hw
    obtain ⟨x, _, rfl⟩ := List.mem_map.1 hw
    exact numD_soft x
theorem nums_step (xs ys : List Nat) (hx : ∀ x ∈ xs, x < 10 ^ 9) (hy : ∀ x ∈ ys, x < 10 ^ 9) : wordsC (xs.map numZ) (ys.map numZ) = thenI (Lib.compareInt (xs.headD 0) (ys.headD 0)) (wordsC (xs.tail.map numZ) (ys.tail.map numZ)) := by
  have e : ∀ l : List Nat, (l.map numZ).headD nZ = numZ (l.headD 0) := fun l => by cases l <;> rfl
  have et : ∀ l : List Nat, (l.map numZ).tail = l.tail.map numZ := fun l => by cases l <;> rfl
  have hb : ∀ l : List Nat, (∀ x ∈ l, x < 10 ^ 9) → l.headD 0 < 10 ^ 9 := fun l hl => by
    cases l with
    | nil => decide
    | cons a r => exact hl a List.mem_cons_self
  rw [wordsC_step, e, e, et, et, cmp_num _ _ (hb xs hx) (hb ys hy)]
/-- behind numbers whose last one is not nought -/
theorem clean_pre : ∀ (A : List Wd) (d : Wd) (ws : List Wd), (∀ w ∈ A, softW w = true) → softW d = true → noN d = false → cleanW (A ++ d :: ws) = A ++ d :: cleanW ws
  | [], d, ws, _, _, hd => by
    show cleanW (d :: ws) = _
    rw [cleanW, hd]; rfl
  | a :: A, d, ws, hA, hs, hd => by
    have ih := clean_pre A d ws (fun w hw => hA w (List.mem_cons_of_mem _ hw)) hs hd
    have ha : aheadW (A ++ d :: cleanW ws) = true := by
      cases A with
      | nil => exact hs
      | cons b A => exact hA b (by simp)
    rw [List.cons_append, cleanW, ih, ha]
    simp
theorem dots_behind (xs : List Nat) (y : Nat) (T : List UInt8) (hy : 0 < y) (hx : ∀ x ∈ xs ++ [y], x < 10 ^ 9) (hT : digHd (lowerL T) = false) : splitW (dotL (xs ++ [y]) ++ T) = (xs ++ [y]).map numD ++ cleanW ((tailP (lowerL T)).map wordP) := by
  rw [dots_split (xs ++ [y]) T (by simp) hx hT, List.map_append, List.map_cons, List.map_nil, List.append_assoc, List.append_assoc]
  refine clean_pre _ _ _ ?_ (numD_soft y) ?_
  · intro w hw
    obtain ⟨x, _, rfl⟩ := List.mem_map.1 hw
    exact numD_soft x
  · unfold numD; rw [if_neg (by omega)]; rfl
/-- of two versions with the same numbers ahead what stands behind counts alone -/
theorem behind_cmp (xs : List Nat) (y : Nat) (S T : List UInt8) (hy : 0 < y) (hx : ∀ x ∈ xs ++ [y], x < 10 ^ 9) (hS : digHd (lowerL S) = false) (hT : digHd (lowerL T) = false) : cmpV (dotL (xs ++ [y]) ++ S) (dotL (xs ++ [y]) ++ T) = wordsC ((cleanW ((tailP (lowerL S)).map wordP)).map Wz.of) ((cleanW ((tailP (lowerL T)).map wordP)).map Wz.of) := by
  unfold cmpV spZ
  rw [dots_behind xs y S hy hx hS, dots_behind xs y T hy hx hT]
  generalize (xs ++ [y]).map numD = P
  rw [List.map_append, List.map_append, wordsC_pre]
end Nwl
