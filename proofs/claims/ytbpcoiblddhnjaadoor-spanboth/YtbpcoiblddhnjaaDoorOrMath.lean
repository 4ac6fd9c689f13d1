/-
  Plain facts on how versions compare (layer 6): nothing of the program.
-/
import Derived.Test.YtbpcoiblddhnjaaDoorWdMath
import Derived.Lib.Bytealg
import Derived.Lib.Small
namespace Nwl
open Go
set_option linter.unusedSimpArgs false
set_option linter.unusedVariables false

/-- an order that tells -1, 0, 1 -/
structure Ord3 {α : Type} (f : α → α → Int) : Prop where
  sgn : ∀ a b, f a b = -1 ∨ f a b = 0 ∨ f a b = 1
  anti : ∀ a b, f b a = - f a b
  trans : ∀ a b c, f a b ≤ 0 → f b c ≤ 0 → f a c ≤ 0
theorem Ord3.refl {α : Type} {f : α → α → Int} (h : Ord3 f) (a : α) : f a a = 0 := by
  have := h.anti a a
  omega
theorem Ord3.lt_le {α : Type} {f : α → α → Int} (h : Ord3 f) {a b c : α} (h1 : f a b < 0) (h2 : f b c ≤ 0) : f a c < 0 := by
  have h3 := h.trans a b c (by omega) h2
  rcases Int.lt_or_eq_of_le h3 with h4 | h4
  · exact h4
  · have h5 := h.anti a c
    have h6 := h.trans b c a h2 (by omega)
    have h7 := h.anti a b
    omega
theorem Ord3.le_lt {α : Type} {f : α → α → Int} (h : Ord3 f) {a b c : α} (h1 : f a b ≤ 0) (h2 : f b c < 0) : f a c < 0 := by
  have h3 := h.trans a b c h1 (by omega)
  rcases Int.lt_or_eq_of_le h3 with h4 | h4
  · exact h4
  · have h5 := h.anti a c
    have h6 := h.trans c a b (by omega) h1
    have h7 := h.anti b c
    omega
theorem Ord3.same {α : Type} {f : α → α → Int} (h : Ord3 f) {a b : α} (c : α) (h0 : f a b = 0) : f a c = f b c := by
  have h1 := h.anti a b
  have s1 := h.sgn a c
  have s2 := h.sgn b c
  have a1 := h.anti a c
  have a2 := h.anti b c
  have t1 := h.trans a b c (by omega)
  have t2 := h.trans b a c (by omega)
  have t3 := fun x => h.trans c a b x (by omega)
  have t4 := fun x => h.trans c b a x (by omega)
  omega
theorem Ord3.pull {α β : Type} {f : α → α → Int} (h : Ord3 f) (k : β → α) : Ord3 (fun a b => f (k a) (k b)) :=
  ⟨fun a b => h.sgn _ _, fun a b => h.anti _ _, fun a b c => h.trans _ _ _⟩
/-- the first that tells -/
def thenI (x y : Int) : Int := if x = 0 then y else x
theorem Ord3.lex {α : Type} {f g : α → α → Int} (hf : Ord3 f) (hg : Ord3 g) : Ord3 (fun a b => thenI (f a b) (g a b)) := by
  refine ⟨fun a b => ?_, fun a b => ?_, fun a b c => ?_⟩
  · have h1 := hf.sgn a b
    have h2 := hg.sgn a b
    unfold thenI
    split <;> omega
  · have h1 := hf.anti a b
    have h2 := hg.anti a b
    unfold thenI
    split <;> split <;> omega
  · intro h1 h2
    have t1 := hf.trans a b c
    have t2 := hg.trans a b c
    have l1 := fun x => hf.lt_le (a := a) (b := b) (c := c) x
    have l2 := fun x y => hf.le_lt (a := a) (b := b) (c := c) x y
    unfold thenI at *
    by_cases e1 : f a b = 0
    · rw [if_pos e1] at h1
      by_cases e2 : f b c = 0
      · rw [if_pos e2] at h2
        have := hf.same c e1
        rw [if_pos (by omega)]
        exact t2 h1 h2
      · rw [if_neg e2] at h2
        have := l2 (by omega) (by omega)
        rw [if_neg (by omega)]; omega
    · rw [if_neg e1] at h1
      have h3 : f b c ≤ 0 := by
        by_cases e2 : f b c = 0
        · omega
        · rw [if_neg e2] at h2; exact h2
      have := l1 (by omega) h3
      rw [if_neg (by omega)]; omega
theorem ord_int : Ord3 Lib.compareInt := by
  refine ⟨fun a b => ?_, fun a b => ?_, fun a b c => ?_⟩
  · unfold Lib.compareInt; repeat' split
    all_goals omega
  · unfold Lib.compareInt; repeat' split
    all_goals omega
  · unfold Lib.compareInt; repeat' split
    all_goals omega
theorem cb_sgn : ∀ a b, Lib.compareBytes a b = -1 ∨ Lib.compareBytes a b = 0 ∨ Lib.compareBytes a b = 1
  | [], [] => by simp [Lib.compareBytes]
  | [], _ :: _ => by simp [Lib.compareBytes]
  | _ :: _, [] => by simp [Lib.compareBytes]
  | x :: a, y :: b => by
    have := cb_sgn a b
    unfold Lib.compareBytes
    split
    · omega
    · split <;> omega
theorem cb_anti : ∀ a b, Lib.compareBytes b a = - Lib.compareBytes a b
  | [], [] => by simp [Lib.compareBytes]
  | [], _ :: _ => by simp [Lib.compareBytes]
  | _ :: _, [] => by simp [Lib.compareBytes]
  | x :: a, y :: b => by
    have ih := cb_anti a b
    unfold Lib.compareBytes
    simp only [UInt8.lt_iff_toNat_lt]
    by_cases h1 : x.toNat < y.toNat
    · rw [if_neg (by omega : ¬ y.toNat < x.toNat), if_pos h1, if_pos h1]; rfl
    · by_cases h2 : y.toNat < x.toNat
      · rw [if_pos h2, if_neg h1, if_pos h2]
      · rw [if_neg h1, if_neg h2, if_neg h1, if_neg h2]; exact ih
theorem cb_trans : ∀ a b c, Lib.compareBytes a b ≤ 0 → Lib.compareBytes b c ≤ 0 → Lib.compareBytes a c ≤ 0
  | [], _, [], _, _ => by simp [Lib.compareBytes]
  | [], _, _ :: _, _, _ => by simp [Lib.compareBytes]
  | x :: a, [], c, h, _ => by simp [Lib.compareBytes] at h
  | x :: a, y :: b, [], _, h => by simp [Lib.compareBytes] at h
  | x :: a, y :: b, z :: c, h1, h2 => by
    have ih := cb_trans a b c
    unfold Lib.compareBytes at h1 h2 ⊢
    simp only [UInt8.lt_iff_toNat_lt] at *
    by_cases p1 : x.toNat < y.toNat
    · by_cases p2 : y.toNat < z.toNat
      · rw [if_pos (by omega)]; omega
      · rw [if_neg p2] at h2
        by_cases p3 : z.toNat < y.toNat
        · rw [if_pos p3] at h2; omega
        · rw [if_pos (by omega)]; omega
    · rw [if_neg p1] at h1
      by_cases p3 : y.toNat < x.toNat
      · rw [if_pos p3] at h1; omega
      · rw [if_neg p3] at h1
        by_cases p2 : y.toNat < z.toNat
        · rw [if_pos (by omega)]; omega
        · rw [if_neg p2] at h2
          by_cases p4 : z.toNat < y.toNat
          · rw [if_pos p4] at h2; omega
          · rw [if_neg p4] at h2
            rw [if_neg (by omega), if_neg (by omega)]
            exact ih h1 h2
theorem ord_bytes : Ord3 Lib.compareBytes := ⟨cb_sgn, cb_anti, cb_trans⟩
theorem cb_zero : ∀ a b, Lib.compareBytes a b = 0 → a = b
  | [], [], _ => rfl
  | [], _ :: _, h => by simp [Lib.compareBytes] at h
  | _ :: _, [], h => by simp [Lib.compareBytes] at h
  | x :: a, y :: b, h => by
    unfold Lib.compareBytes at h
    simp only [UInt8.lt_iff_toNat_lt] at h
    split at h
    · omega
    · split at h
      · omega
      · rw [cb_zero a b h]
        congr 1
        exact UInt8.toNat_inj.1 (by omega)

/-- a word whose kind is any number -/
structure Wz where
  k : Int
  t : List UInt8
  deriving DecidableEq
def Wz.of (w : Wd) : Wz := ⟨w.k, w.t⟩
def nZ : Wz := ⟨6, []⟩
def keyN (a : Wz) : Int := if a.k = 9 ∨ a.k = 10 then a.t.length else 0
def keyT (a : Wz) : List UInt8 := if a.k = 8 ∨ a.k = 9 ∨ a.k = 10 then a.t else []
def cmpZ (a b : Wz) : Int := thenI (Lib.compareInt a.k b.k) (thenI (Lib.compareInt (keyN a) (keyN b)) (Lib.compareBytes (keyT a) (keyT b)))
theorem ord_z : Ord3 cmpZ := (ord_int.pull Wz.k).lex ((ord_int.pull keyN).lex (ord_bytes.pull keyT))
def cmpF : Nat → List Wz → List Wz → Int
  | 0, _, _ => 0
  | n + 1, a, b => thenI (cmpZ (a.headD nZ) (b.headD nZ)) (cmpF n a.tail b.tail)
/-- how two lists of words compare -/
def wordsC (a b : List Wz) : Int := cmpF (max a.length b.length) a b
theorem cmpF_nil : ∀ n, cmpF n [] [] = 0
  | 0 => rfl
  | n + 1 => by rw [cmpF, List.tail_nil, cmpF_nil n]; decide
theorem cmpF_more : ∀ (n m : Nat) (a b : List Wz), a.length ≤ n → b.length ≤ n → a.length ≤ m → b.length ≤ m → cmpF n a b = cmpF m a b
  | 0, m, a, b, h1, h2, _, _ => by
    obtain rfl := List.eq_nil_of_length_eq_zero (Nat.le_zero.1 h1)
    obtain rfl := List.eq_nil_of_length_eq_zero (Nat.le_zero.1 h2)
    rw [cmpF_nil, cmpF_nil]
  | n, 0, a, b, _, _, h1, h2 => by
    obtain rfl := List.eq_nil_of_length_eq_zero (Nat.le_zero.1 h1)
    obtain rfl := List.eq_nil_of_length_eq_zero (Nat.le_zero.1 h2)
    rw [cmpF_nil, cmpF_nil]
  | n + 1, m + 1, a, b, h1, h2, h3, h4 => by
    rw [cmpF, cmpF, cmpF_more n m a.tail b.tail (by rw [List.length_tail]; omega) (by rw [List.length_tail]; omega) (by rw [List.length_tail]; omega) (by rw [List.length_tail]; omega)]
theorem wordsC_eq (n : Nat) (a b : List Wz) (h1 : a.length ≤ n) (h2 : b.length ≤ n) : wordsC a b = cmpF n a b := cmpF_more _ _ _ _ (by omega) (by omega) h1 h2
theorem wordsC_nil : wordsC [] [] = 0 := rfl
theorem wordsC_step (a b : List Wz) : wordsC a b = thenI (cmpZ (a.headD nZ) (b.headD nZ)) (wordsC a.tail b.tail) := by
  rw [wordsC_eq (max a.length b.length + 1) a b (by omega) (by omega), cmpF, wordsC_eq (max a.length b.length) a.tail b.tail (by rw [List.length_tail]; omega) (by rw [List.length_tail]; omega)]
theorem ord_F : ∀ n, Ord3 (cmpF n)
  | 0 => ⟨fun _ _ => .inr (.inl rfl), fun _ _ => rfl, fun _ _ _ _ _ => Int.le_refl _⟩
  | n + 1 => (ord_z.pull (fun a : List Wz => a.headD nZ)).lex ((ord_F n).pull List.tail)
theorem ord_words : Ord3 wordsC := by
  refine ⟨fun a b => (ord_F _).sgn a b, fun a b => ?_, fun a b c => ?_⟩
  · have := (ord_F (max a.length b.length)).anti a b
    rw [wordsC_eq (max a.length b.length) b a (by omega) (by omega)]
    exact this
  · have := (ord_F (max a.length (max b.length c.length))).trans a b c
    rw [wordsC_eq (max a.length (max b.length c.length)) a b (by omega) (by omega), wordsC_eq (max a.length (max b.length c.length)) b c (by omega) (by omega), wordsC_eq (max a.length (max b.length c.length)) a c (by omega) (by omega)]
    exact this
/-- the words of a version -/
def spZ (l : List UInt8) : List Wz := (splitW l).map Wz.of
/-- how two versions compare -/
def cmpV (a b : List UInt8) : Int := wordsC (spZ a) (spZ b)
theorem ord_v : Ord3 cmpV := ord_words.pull spZ
def ordV (a b : List UInt8) : Int := thenI (cmpV a b) (Lib.compareBytes a b)
theorem ord_o : Ord3 ordV := ord_v.lex ord_bytes
theorem ordV_zero (a b : List UInt8) (h : ordV a b = 0) : a = b := by
  unfold ordV thenI at h
  split at h
  · exact cb_zero a b h
  · omega
/-- a version at or below another -/
def leV (a b : List UInt8) : Bool := decide (ordV a b ≤ 0)
/-- versions in order -/
def sortV (l : List (List UInt8)) : List (List UInt8) := l.mergeSort leV
theorem leV_trans (a b c : List UInt8) (h1 : leV a b = true) (h2 : leV b c = true) : leV a c = true := by
  unfold leV at *
  rw [decide_eq_true_eq] at *
  exact ord_o.trans a b c h1 h2
theorem leV_total (a b : List UInt8) : (leV a b || leV b a) = true := by
  unfold leV
  have := ord_o.anti a b
  rw [Bool.or_eq_true, decide_eq_true_eq, decide_eq_true_eq]
  omega
theorem leV_anti (a b : List UInt8) (h1 : leV a b = true) (h2 : leV b a = true) : a = b := by
  unfold leV at *
  rw [decide_eq_true_eq] at *
  have := ord_o.anti a b
  exact ordV_zero a b (by omega)
theorem sortV_perm (l : List (List UInt8)) : (sortV l).Perm l := List.mergeSort_perm l leV
theorem sortV_sorted (l : List (List UInt8)) : (sortV l).Pairwise (fun a b => leV a b = true) := List.pairwise_mergeSort leV_trans leV_total l
/-- there is one order alone -/
theorem sortV_one (l l' : List (List UInt8)) (hp : l'.Perm l) (hs : l'.Pairwise (fun a b => leV a b = true)) : l' = sortV l :=
  List.Perm.eq_of_pairwise (le := fun a b => leV a b = true) (fun a b _ _ h1 h2 => leV_anti a b h1 h2) hs (sortV_sorted l) (hp.trans (sortV_perm l).symm)
theorem sortV_of_perm (l l' : List (List UInt8)) (hp : l.Perm l') : sortV l = sortV l' := sortV_one l' (sortV l) ((sortV_perm l).trans hp) (sortV_sorted l)
theorem sortV_len (l : List (List UInt8)) : (sortV l).length = l.length := (sortV_perm l).length_eq
/-- the greater of what was found so far and another -/
def bestV (b v : List UInt8) : List UInt8 := if 0 < ordV v b then v else b
def greatV (b : List UInt8) (l : List (List UInt8)) : List UInt8 := l.foldl bestV b
theorem greatV_spec : ∀ (l : List (List UInt8)) (b : List UInt8), (greatV b l = b ∨ greatV b l ∈ l) ∧ leV b (greatV b l) = true ∧ ∀ v ∈ l, leV v (greatV b l) = true
  | [], b => ⟨.inl rfl, by unfold leV greatV; rw [List.foldl_nil, ord_o.refl]; rfl, fun v hv => by simp at hv⟩
  | x :: l, b => by
    obtain ⟨h1, h2, h3⟩ := greatV_spec l (bestV b x)
    have e : greatV b (x :: l) = greatV (bestV b x) l := rfl
    rw [e]
    have hb : leV b (bestV b x) = true ∧ leV x (bestV b x) = true ∧ (bestV b x = b ∨ bestV b x = x) := by
      have ha := ord_o.anti b x
      unfold bestV
      by_cases h : 0 < ordV x b
      · rw [if_pos h]
        unfold leV
        rw [decide_eq_true_eq, decide_eq_true_eq, ord_o.refl]
        exact ⟨by omega, by omega, .inr rfl⟩
      · rw [if_neg h]
        unfold leV
        rw [decide_eq_true_eq, decide_eq_true_eq, ord_o.refl]
        exact ⟨by omega, by omega, .inl rfl⟩
    refine ⟨?_, leV_trans _ _ _ hb.1 h2, fun v hv => ?_⟩
    · rcases h1 with h1 | h1
      · rcases hb.2.2 with h | h
        · exact .inl (h1.trans h)
        · exact .inr (by rw [h1, h]; exact List.mem_cons_self)
      · exact .inr (List.mem_cons_of_mem _ h1)
    · rcases List.mem_cons.1 hv with rfl | hv
      · exact leV_trans _ _ _ hb.2.1 h2
      · exact h3 v hv
/-- the greatest is the last one in order -/
theorem great_last (b : List UInt8) (l : List (List UInt8)) (h : sortV (b :: l) ≠ []) : (sortV (b :: l)).getLast h = greatV b l := by
  obtain ⟨h1, h2, h3⟩ := greatV_spec l b
  have hin : greatV b l ∈ b :: l := by
    rcases h1 with h1 | h1
    · rw [h1]; exact List.mem_cons_self
    · exact List.mem_cons_of_mem _ h1
  have hin2 : greatV b l ∈ sortV (b :: l) := (sortV_perm _).mem_iff.2 hin
  have hl : (sortV (b :: l)).getLast h ∈ b :: l := (sortV_perm _).mem_iff.1 (List.getLast_mem h)
  have hle : leV ((sortV (b :: l)).getLast h) (greatV b l) = true := by
    rcases List.mem_cons.1 hl with e | e
    · rw [e]; exact h2
    · exact h3 _ e
  have hge : leV (greatV b l) ((sortV (b :: l)).getLast h) = true := by
    have hs := sortV_sorted (b :: l)
    rw [← List.dropLast_concat_getLast h] at hs hin2
    rw [List.pairwise_append] at hs
    rcases List.mem_append.1 hin2 with e | e
    · exact hs.2.2 _ e _ (List.mem_singleton.2 rfl)
    · rw [List.mem_singleton.1 e]
      unfold leV; rw [ord_o.refl]; rfl
  exact leV_anti _ _ hle hge
end Nwl
