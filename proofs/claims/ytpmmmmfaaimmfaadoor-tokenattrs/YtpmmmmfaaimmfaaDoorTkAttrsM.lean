/-
  Attributes, one behind the other: plain facts.
-/
import Derived.Test.YtpmmmmfaaimmfaaDoorTkDigits
import Derived.Test.YtpmmmmfaaimmfaaDoorTkTexts
namespace Nwl
open Go
def Sps (B : List UInt8) : Prop := B ≠ [] ∧ ∀ c ∈ B, space8 c = true
theorem skip_sps : ∀ (B r : List UInt8), (∀ c ∈ B, space8 c = true) → skipL (B ++ r) = skipL r
  | [], r, _ => rfl
  | c :: B, r, h => by
    have hc := h c (by simp)
    unfold skipL
    rw [List.cons_append, List.dropWhile_cons, if_pos hc]
    exact skip_sps B r (fun d hd => h d (List.mem_cons_of_mem _ hd))
theorem sp_not : ∀ n : Nat, n < 256 → spaceI n = true → withinI n = false := by decide +kernel
theorem space_within {c : UInt8} (h : space8 c = true) : within8 c = false := sp_not _ c.toNat_lt h
theorem dig_in : ∀ n : Nat, n < 256 → 48 ≤ n → n ≤ 57 → withinI n = true := by decide +kernel
theorem dig_within {c : UInt8} (h : 48 ≤ c.toNat ∧ c.toNat ≤ 57) : within8 c = true := dig_in _ c.toNat_lt h.1 h.2
theorem take_in : ∀ (D r : List UInt8) (b : UInt8), (∀ c ∈ D, within8 c = true) → within8 b = false → (D ++ b :: r).takeWhile within8 = D ∧ (D ++ b :: r).dropWhile within8 = b :: r
  | [], r, b, _, hb => by simp [hb]
  | c :: D, r, b, h, hb => by
    have hc := h c (by simp)
    have := take_in D r b (fun d hd => h d (List.mem_cons_of_mem _ hd)) hb
    simp only [List.cons_append, List.takeWhile_cons, List.dropWhile_cons, hc, if_true]
    rw [this.1]
    exact ⟨rfl, this.2⟩
theorem name_in (c : UInt8) (D r : List UInt8) (b : UInt8) (hb0 : beginI c.toNat = true) (hc : within8 c = true) (h : ∀ c ∈ D, within8 c = true) (hb : within8 b = false) : nameP (c :: (D ++ b :: r)) = (c :: D, b :: r) := by
  have := take_in (c :: D) r b (fun d hd => by rcases List.mem_cons.1 hd with e | e; (subst e; exact hc); exact h d e) hb
  unfold nameP
  show (if beginI c.toNat = true then _ else _) = _
  rw [if_pos hb0]
  rw [List.cons_append] at this
  rw [this.1, this.2]
def nmN (i : Nat) : List UInt8 := 110 :: decF 2 i
def vlN (V : List UInt8) (i : Nat) : List UInt8 := V ++ decF 2 i
def pieceN (B V : List UInt8) (i : Nat) : List UInt8 := B ++ nmN i ++ B ++ [61] ++ B ++ [34] ++ vlN V i ++ [34]
def bodyN (B V : List UInt8) : Nat → List UInt8
  | 0 => []
  | k + 1 => bodyN B V k ++ pieceN B V k
def attN (V : List UInt8) : Nat → List (List UInt8 × List UInt8)
  | 0 => []
  | k + 1 => attN V k ++ [(nmN k, vlN V k)]
def Plainv (V : List UInt8) : Prop := ∀ c ∈ V, 32 ≤ c.toNat ∧ c ≠ 60 ∧ c ≠ 38 ∧ c ≠ 34
theorem vlN_plain {V : List UInt8} (h : Plainv V) (i : Nat) : Plainv (vlN V i) := fun c hc => by
  rcases List.mem_append.1 hc with e | e
  · exact h c e
  · have := decF_dig 2 i c e
    refine ⟨by omega, ?_, ?_, ?_⟩ <;> (intro e2; subst e2; exact absurd this (by decide))
theorem ent_same {l : List UInt8} (h : 38 ∉ l) : entL l = some l := by
  have := entL_plain l [] h
  rw [List.append_nil, entL_nil] at this
  rw [this]; simp
theorem value_plain {v : List UInt8} (r : List UInt8) (h : Plainv v) : valueL (34 :: (v ++ 34 :: r)) = some (v, r) := by
  unfold valueL
  simp only [true_or, if_true]
  rw [cut_at 34 v r (fun hm => (h 34 hm).2.2.2 rfl)]
  simp only []
  rw [not_contains (fun hm => (h 60 hm).2.1 rfl), ent_same (fun hm => (h 38 hm).2.2.1 rfl)]
  rfl
theorem attr_step {B V : List UInt8} (hB : Sps B) (hV : Plainv V) (i : Nat) (acc : List (List UInt8 × List UInt8)) (r : List UInt8) :
    attrsL acc (pieceN B V i ++ r) = if (acc.map (·.1)).contains (nmN i) then none else attrsL (acc ++ [(nmN i, vlN V i)]) r := by
  obtain ⟨hB0, hBs⟩ := hB
  obtain ⟨b, B', rfl⟩ : ∃ b B', B = b :: B' := by cases B with
    | nil => exact absurd rfl hB0
    | cons b B' => exact ⟨b, B', rfl⟩
  have hbw : within8 b = false := space_within (hBs b (by simp))
  have e0 : pieceN (b :: B') V i ++ r = (b :: B') ++ (110 :: (decF 2 i ++ b :: (B' ++ 61 :: ((b :: B') ++ 34 :: (vlN V i ++ 34 :: r))))) := by
    simp [pieceN, nmN]
  have s1 : skipL (pieceN (b :: B') V i ++ r) = 110 :: (decF 2 i ++ b :: (B' ++ 61 :: ((b :: B') ++ 34 :: (vlN V i ++ 34 :: r)))) := by
    rw [e0, skip_sps _ _ hBs]; rfl
  have hn : nameP (110 :: (decF 2 i ++ b :: (B' ++ 61 :: ((b :: B') ++ 34 :: (vlN V i ++ 34 :: r))))) = (nmN i, b :: (B' ++ 61 :: ((b :: B') ++ 34 :: (vlN V i ++ 34 :: r)))) :=
    name_in 110 (decF 2 i) _ b (by decide) (by decide) (fun c hc => dig_within (decF_dig 2 i c hc)) hbw
  have s2 : skipL (b :: (B' ++ 61 :: ((b :: B') ++ 34 :: (vlN V i ++ 34 :: r)))) = 61 :: ((b :: B') ++ 34 :: (vlN V i ++ 34 :: r)) := by
    have := skip_sps (b :: B') (61 :: ((b :: B') ++ 34 :: (vlN V i ++ 34 :: r))) hBs
    rw [List.cons_append] at this
    rw [this]; rfl
  have s3 : skipL ((b :: B') ++ 34 :: (vlN V i ++ 34 :: r)) = 34 :: (vlN V i ++ 34 :: r) := by
    rw [skip_sps _ _ hBs]; rfl
  have ha : attrL (110 :: (decF 2 i ++ b :: (B' ++ 61 :: ((b :: B') ++ 34 :: (vlN V i ++ 34 :: r))))) = some ((nmN i, vlN V i), r) := by
    unfold attrL
    rw [hn]
    simp only [s2, s3, value_plain r (vlN_plain hV i)]
    rfl
  rw [attrsL_eq, s1, pre_no _ _ _ _ (by decide), pre_no _ _ _ _ (by decide), ha]
  rw [if_neg (by decide), if_neg (by decide), if_neg (by rw [e0]; simp; omega)]
theorem nm_inj {i j : Nat} (hi : i < 100) (hj : j < 100) (h : nmN i = nmN j) : i = j := by
  have h1 := decF_val 2 i (by omega) (by omega)
  have h2 := decF_val 2 j (by omega) (by omega)
  have e : decF 2 i = decF 2 j := List.tail_eq_of_cons_eq h
  rw [e, h2] at h1
  exact (Option.some.inj h1).symm
theorem att_names (V : List UInt8) : ∀ (k : Nat) (x : List UInt8), x ∈ (attN V k).map (·.1) → ∃ i, i < k ∧ x = nmN i
  | 0, x, h => by simp [attN] at h
  | k + 1, x, h => by
    rw [attN, List.map_append, List.mem_append] at h
    rcases h with h | h
    · obtain ⟨i, hi, e⟩ := att_names V k x h
      exact ⟨i, by omega, e⟩
    · exact ⟨k, by omega, by simpa using h⟩
theorem att_new (V : List UInt8) (k : Nat) (hk : k < 100) : ((attN V k).map (·.1)).contains (nmN k) = false := by
  rw [List.contains_eq_mem]
  refine decide_eq_false fun h => ?_
  obtain ⟨i, hi, e⟩ := att_names V k _ h
  have := nm_inj hk (by omega) e
  omega
theorem att_zero (V : List UInt8) : ∀ k : Nat, 0 < k → ((attN V k).map (·.1)).contains [110, 48] = true
  | 0, h => by omega
  | 1, _ => by simp [attN, nmN, decF, digN]
  | k + 2, _ => by
    have := att_zero V (k + 1) (by omega)
    rw [List.contains_eq_mem, decide_eq_true_eq] at this ⊢
    rw [attN, List.map_append, List.mem_append]
    exact .inl this
theorem att_len (V : List UInt8) : ∀ k : Nat, (attN V k).length = k
  | 0 => rfl
  | k + 1 => by rw [attN, List.length_append, att_len V k]; rfl
theorem body_attrs {B V : List UInt8} (hB : Sps B) (hV : Plainv V) : ∀ (k : Nat) (r : List UInt8), k ≤ 100 → attrsL [] (bodyN B V k ++ r) = attrsL (attN V k) r
  | 0, r, _ => rfl
  | k + 1, r, h => by
    rw [bodyN, List.append_assoc, body_attrs hB hV k _ (by omega), attr_step hB hV k, att_new V k (by omega)]
    rfl
theorem body_head (B V : List UInt8) : ∀ (k : Nat) (y : List UInt8), ∃ r, bodyN B V k ++ (B ++ y) = B ++ r
  | 0, y => ⟨y, rfl⟩
  | k + 1, y => by
    have e : bodyN B V (k + 1) ++ (B ++ y) = bodyN B V k ++ (B ++ (nmN k ++ B ++ [61] ++ B ++ [34] ++ vlN V k ++ [34] ++ (B ++ y))) := by simp [bodyN, pieceN]
    rw [e]
    exact body_head B V k _
theorem open_e {B V : List UInt8} (hB : Sps B) (hV : Plainv V) (k : Nat) (hk : k ≤ 100) (y : List UInt8) :
    openL (101 :: (bodyN B V k ++ (B ++ y))) = (attrsL (attN V k) (B ++ y)).map fun (a, e, rest) => (⟨1, [101], [], a, e⟩, rest) := by
  obtain ⟨r, hr⟩ := body_head B V k y
  have hb := body_attrs hB hV k (B ++ y) hk
  rw [hr] at hb ⊢
  obtain ⟨hB0, hBs⟩ := hB
  obtain ⟨b, B', rfl⟩ : ∃ b B', B = b :: B' := by cases B with
    | nil => exact absurd rfl hB0
    | cons b B' => exact ⟨b, B', rfl⟩
  have hbw : within8 b = false := space_within (hBs b (by simp))
  have hn : nameP (101 :: (b :: B' ++ r)) = ([101], b :: B' ++ r) := by
    have := name_in 101 [] (B' ++ r) b (by decide) (by decide) (by simp) hbw
    exact this
  unfold openL
  rw [hn, ← hb]
  rfl
theorem tok_e {B V : List UInt8} (hB : Sps B) (hV : Plainv V) (k : Nat) (hk : k ≤ 100) (y : List UInt8) :
    tokL true (60 :: 101 :: (bodyN B V k ++ (B ++ y))) = (attrsL (attN V k) (B ++ y)).map fun (a, e, rest) => (⟨1, [101], [], a, e⟩, rest) := by
  have p2 : ∀ (d : UInt8) (p : List UInt8), d ≠ 101 → Lib.hasPrefix (60 :: 101 :: (bodyN B V k ++ (B ++ y))) (60 :: d :: p) = false := fun d p h => by
    unfold Lib.hasPrefix
    rw [List.isPrefixOf, List.isPrefixOf, beq_false_of_ne h]
    rfl
  unfold tokL
  rw [p2 33 _ (by decide), p2 33 _ (by decide), p2 63 _ (by decide), p2 47 _ (by decide), pre_yes]
  exact open_e hB hV k hk y
def textA (B V : List UInt8) (k : Nat) : List UInt8 := 60 :: 101 :: bodyN B V k
theorem attrs_split {B V : List UInt8} (hB : Sps B) (hV : Plainv V) (k : Nat) (hk : k ≤ 100) : splitL (textA B V k ++ B ++ [47, 62]) = some [⟨1, [101], [], attN V k, true⟩] := by
  show splitM true _ = _
  have e : textA B V k ++ B ++ [47, 62] = 60 :: 101 :: (bodyN B V k ++ (B ++ [47, 62])) := by simp [textA]
  have ha : attrsL (attN V k) (B ++ [47, 62]) = some (attN V k, true, []) := by
    rw [attrsL_eq, skip_sps _ _ hB.2]
    have : skipL [47, 62] = [47, 62] := rfl
    rw [this]
    rfl
  rw [e, splitM_step (by simp), tok_e hB hV k hk, ha]
  rfl
theorem attrs_twice {B V : List UInt8} (hB : Sps B) (hV : Plainv V) (k : Nat) (hk : k ≤ 100) : splitL (textA B V k ++ B ++ [110, 48, 61, 39, 39, 32, 110, 48, 61, 39, 39, 47, 62]) = none := by
  show splitM true _ = _
  have e : textA B V k ++ B ++ [110, 48, 61, 39, 39, 32, 110, 48, 61, 39, 39, 47, 62] = 60 :: 101 :: (bodyN B V k ++ (B ++ [110, 48, 61, 39, 39, 32, 110, 48, 61, 39, 39, 47, 62])) := by simp [textA]
  have hat : attrL [110, 48, 61, 39, 39, 32, 110, 48, 61, 39, 39, 47, 62] = some (([110, 48], []), [32, 110, 48, 61, 39, 39, 47, 62]) := by decide +kernel
  have ha : attrsL (attN V k) (B ++ [110, 48, 61, 39, 39, 32, 110, 48, 61, 39, 39, 47, 62]) = none := by
    rw [attrsL_eq, skip_sps _ _ hB.2]
    have : skipL [110, 48, 61, 39, 39, 32, 110, 48, 61, 39, 39, 47, 62] = [110, 48, 61, 39, 39, 32, 110, 48, 61, 39, 39, 47, 62] := rfl
    rw [this, pre_no _ _ _ _ (by decide), pre_no _ _ _ _ (by decide), hat]
    rw [if_neg (by decide), if_neg (by decide)]
    split
    · rfl
    · show (if ((attN V k).map (·.1)).contains [110, 48] = true then none else attrsL (attN V k ++ [([110, 48], [])]) [32, 110, 48, 61, 39, 39, 47, 62]) = none
      rcases Nat.eq_zero_or_pos k with h0 | h0
      · subst h0
        show attrsL [([110, 48], [])] [32, 110, 48, 61, 39, 39, 47, 62] = none
        decide +kernel
      · rw [if_pos (att_zero V k h0)]
  rw [e, splitM_step (by simp), tok_e hB hV k hk, ha]
  rfl
theorem allL_sps {B : List UInt8} (h : Sps B) : allL B = true := by
  unfold allL
  rw [List.all_eq_true]
  intro c hc
  have : spaceI (c.toNat : Int) = true := h.2 c hc
  simp [allowedI, this]
theorem allL_plain {V : List UInt8} (h : Plainv V) : allL V = true := by
  unfold allL
  rw [List.all_eq_true]
  intro c hc
  have h32 := (h c hc).1
  rcases Nat.eq_or_lt_of_le h32 with e | e
  · rw [← e]; decide
  · simp [allowedI]; right; omega
theorem allL_dec (i : Nat) : allL (decF 2 i) = true := allL_plain (V := decF 2 i) (fun c hc => by
  have := vlN_plain (V := []) (fun c h => by simp at h) i
  exact this c hc)
theorem body_all {B V : List UInt8} (hB : Sps B) (hV : Plainv V) : ∀ k : Nat, allL (bodyN B V k) = true
  | 0 => rfl
  | k + 1 => by
    have hb := allL_sps hB
    have hv := allL_plain (vlN_plain hV k)
    have hd := allL_dec k
    have hn : allL (nmN k) = true := by
      show allL ([110] ++ decF 2 k) = true
      rw [allL_append, hd]; decide
    rw [bodyN, allL_append, body_all hB hV k]
    unfold pieceN
    simp only [allL_append, hb, hv, hn]
    decide
theorem textA_all {B V : List UInt8} (hB : Sps B) (hV : Plainv V) (k : Nat) : allL (textA B V k) = true := by
  show allL ([60, 101] ++ bodyN B V k) = true
  rw [allL_append, body_all hB hV k]; decide
theorem body_len {B V : List UInt8} (hB : B.length ≤ 3) (hV : V.length ≤ 40) : ∀ k : Nat, (bodyN B V k).length ≤ 57 * k
  | 0 => by simp [bodyN]
  | k + 1 => by
    have := body_len hB hV k
    have hd := decF_le 2 k
    rw [bodyN, List.length_append]
    have : (pieceN B V k).length ≤ 57 := by
      simp only [pieceN, nmN, vlN, List.length_append, List.length_cons, List.length_nil]
      omega
    omega
end Nwl
