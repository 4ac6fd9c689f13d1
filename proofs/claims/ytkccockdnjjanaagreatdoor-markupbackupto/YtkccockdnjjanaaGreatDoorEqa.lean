/-
  Plain facts: what is so of each token that a text of Allowed bytes is told as. Plain facts: what is parsed is right. Plain facts: how much a parsed tree weighs. Plain facts: what is written is parsed as it was. The pieces. Plain facts: what is written is parsed as it was.
-/
import Derived.Test.YtkccockdnjjanaaGreatDoorBa
import Derived.Test.YtkccockdnjjanaaGreatDoorMkMath
import Derived.Test.YtkccockdnjjanaaGreatDoorTkSplitM
import Derived.Test.YtkccockdnjjanaaGreatDoorMqa
import Derived.Test.YtkccockdnjjanaaGreatDoorElParse
namespace Nwl
open Go (Lib.cut Lib.index Lib.contains Lib.hasPrefix Lib.encodeRune)
theorem allL_sub {a b : List UInt8} (h : ∀ c ∈ a, c ∈ b) (hb : allL b = true) : allL a = true := by
  unfold allL at hb ⊢
  rw [List.all_eq_true] at hb ⊢
  exact fun c hc => hb c (h c hc)
theorem allL_take {l : List UInt8} (k : Nat) (h : allL l = true) : allL (l.take k) = true := allL_sub (fun _ hc => List.mem_of_mem_take hc) h
theorem allL_drop {l : List UInt8} (k : Nat) (h : allL l = true) : allL (l.drop k) = true := allL_sub (fun _ hc => List.mem_of_mem_drop hc) h
theorem allL_tw {l : List UInt8} (p : UInt8 → Bool) (h : allL l = true) : allL (l.takeWhile p) = true := allL_sub (fun _ hc => (List.takeWhile_sublist p).subset hc) h
theorem allL_dw {l : List UInt8} (p : UInt8 → Bool) (h : allL l = true) : allL (l.dropWhile p) = true := allL_sub (fun _ hc => (List.dropWhile_sublist p).subset hc) h
theorem allL_cons {c : UInt8} {l : List UInt8} (h : allL (c :: l) = true) : allowedI c.toNat = true ∧ allL l = true := by
  unfold allL at h ⊢
  rw [List.all_cons, Bool.and_eq_true] at h
  exact h
theorem allL_app {a b : List UInt8} (ha : allL a = true) (hb : allL b = true) : allL (a ++ b) = true := by
  unfold allL at ha hb ⊢
  rw [List.all_append, ha, hb]; rfl
theorem allL_cut {sep l a b : List UInt8} (h : cutL sep l = some (a, b)) (hl : allL l = true) : allL a = true ∧ allL b = true := by
  unfold cutL at h
  split at h
  · injection h with h
    injection h with h1 h2
    subst h1 h2
    exact ⟨allL_take _ hl, allL_drop _ hl⟩
  · cases h
theorem enc_all {v : Nat} (h : mayI v = true) : allL (Lib.encodeRune v) = true := by
  unfold allL
  rw [List.all_eq_true]
  intro c hc
  unfold Lib.encodeRune at hc
  obtain ⟨z, hz, rfl⟩ := List.mem_map.1 hc
  have hv : (v : Int) ≤ 1114111 ∧ (32 ≤ (v : Int) ∨ (v : Int) = 9 ∨ (v : Int) = 10 ∨ (v : Int) = 13) := by
    unfold mayI at h
    simp only [Bool.and_eq_true, Bool.or_eq_true, decide_eq_true_eq, beq_iff_eq] at h
    omega
  have key : (z = v ∧ (v : Int) ≤ 127) ∨ (128 ≤ z ∧ z ≤ 255) := by
    unfold Go.Lib.encodeRuneZ at hz
    split at hz
    · rename_i h1
      simp at hz
      exact .inl ⟨hz, h1.2⟩
    · split at hz
      · simp at hz; right; omega
      · split at hz
        · simp at hz; right; omega
        · split at hz
          · simp at hz; right; omega
          · simp at hz; right; omega
  have hb : ((z.toNat.toUInt8).toNat : Int) = z := by
    have : z.toNat < 256 := by omega
    have h2 : (z.toNat.toUInt8).toNat = z.toNat := by
      show z.toNat % 256 = z.toNat
      omega
    rw [h2]
    omega
  rw [hb]
  unfold allowedI spaceI
  simp only [Bool.or_eq_true, decide_eq_true_eq, beq_iff_eq]
  omega
theorem charL_may {b : List UInt8} {v : Nat} (h : charL b = some v) : mayI v = true := by
  have hn : ∀ (base : Nat) (l : List UInt8), numL base l = some v → mayI v = true := by
    intro base l h
    unfold numL at h
    split at h
    · cases h
    · split at h
      · cases h
      · split at h
        · rename_i hm
          injection h with h
          subst h; exact hm
        · cases h
  unfold charL at h
  repeat' split at h
  all_goals first
    | (injection h with h; subst h; decide)
    | exact hn _ _ h
    | cases h
theorem entF_all : ∀ (n : Nat) (l x : List UInt8), allL l = true → entF n l = some x → allL x = true
  | _, [], x, _, h => by
    unfold entF at h
    injection h with h
    subst h; rfl
  | 0, c :: r, x, _, h => by cases h
  | n + 1, c :: r, x, hl, h => by
    obtain ⟨hc, hr⟩ := allL_cons hl
    unfold entF at h
    split at h
    · cases hcut : cutL [59] r with
      | none => rw [hcut] at h; cases h
      | some y =>
        obtain ⟨b, rest⟩ := y
        rw [hcut] at h
        dsimp only at h
        cases hch : charL b with
        | none => rw [hch] at h; cases h
        | some v =>
          rw [hch] at h
          dsimp only at h
          cases he : entF n rest with
          | none => rw [he] at h; cases h
          | some z =>
            rw [he] at h
            injection h with h
            subst h
            exact allL_app (enc_all (charL_may hch)) (entF_all n rest z (allL_cut hcut hr).2 he)
    · cases he : entF n r with
      | none => rw [he] at h; cases h
      | some z =>
        rw [he] at h
        injection h with h
        subst h
        have := entF_all n r z hr he
        unfold allL at this ⊢
        rw [List.all_cons, hc, this]; rfl
theorem nameP_all {l : List UInt8} (h : allL l = true) : allL (nameP l).2 = true := by
  unfold nameP
  split
  · rfl
  · split
    · exact allL_dw _ h
    · exact h
theorem nameP_name {l : List UInt8} (h : (nameP l).1 ≠ []) : nameL (nameP l).1 = true := by
  unfold nameP at h ⊢
  split at h
  · exact absurd rfl h
  · rename_i c r
    split at h
    · rename_i hb
      have hw : within8 c = true := begin_within _ hb
      simp only [if_pos hb]
      rw [List.takeWhile_cons, if_pos hw]
      show (beginI c.toNat && (r.takeWhile within8).all within8) = true
      rw [hb, Bool.true_and]
      exact List.all_takeWhile
    · exact absurd rfl h
theorem valueL_all {l v rest : List UInt8} (h : valueL l = some (v, rest)) (hl : allL l = true) : allL v = true ∧ allL rest = true := by
  unfold valueL at h
  split at h
  · cases h
  · rename_i c r
    obtain ⟨_, hr⟩ := allL_cons hl
    split at h
    · cases hcut : cutL [c] r with
      | none => rw [hcut] at h; cases h
      | some y =>
        obtain ⟨raw, rs⟩ := y
        rw [hcut] at h
        dsimp only at h
        split at h
        · cases h
        · cases he : entL raw with
          | none => rw [he] at h; cases h
          | some z =>
            rw [he] at h
            injection h with h
            injection h with h1 h2
            subst h1 h2
            have hc := allL_cut hcut hr
            exact ⟨entF_all _ _ _ hc.1 he, hc.2⟩
    · cases h
theorem attrL_all {l rest : List UInt8} {a : List UInt8 × List UInt8} (h : attrL l = some (a, rest)) (hl : allL l = true) : nameL a.1 = true ∧ allL a.2 = true ∧ allL rest = true := by
  unfold attrL at h
  split at h
  · cases h
  · rename_i hn
    split at h
    · cases h
    · rename_i c r hs
      have hsk : allL (c :: r) = true := by rw [← hs]; exact allL_dw _ (nameP_all hl)
      obtain ⟨_, hr⟩ := allL_cons hsk
      split at h
      · cases hv : valueL (skipL r) with
        | none => rw [hv] at h; cases h
        | some y =>
          obtain ⟨v, rs⟩ := y
          rw [hv] at h
          injection h with h
          injection h with h1 h2
          subst h1 h2
          have := valueL_all hv (allL_dw _ hr)
          exact ⟨nameP_name hn, this.1, this.2⟩
      · cases h
theorem attrsB_snoc {acc : List (List UInt8 × List UInt8)} {a : List UInt8 × List UInt8} (h : attrsB acc = true) (h1 : (acc.map (·.1)).contains a.1 = false) (h2 : nameL a.1 = true) (h3 : allL a.2 = true) : attrsB (acc ++ [a]) = true := by
  unfold attrsB attrsTo at h ⊢
  rw [List.length_append, List.length_singleton, all_range_succ, Bool.and_eq_true]
  constructor
  · rw [List.all_eq_true] at h ⊢
    intro k hk
    have hk' := List.mem_range.1 hk
    have := h k hk
    unfold attrAtB at this ⊢
    rw [List.getElem?_append_left hk', List.take_append_of_le_length (by omega)]
    exact this
  · unfold attrAtB
    rw [List.getElem?_append_right (Nat.le_refl _), Nat.sub_self]
    show (!((List.take acc.length (acc ++ [a])).map (·.1)).contains a.1 && (nameL a.1 && allL a.2)) = true
    rw [List.take_left, h1, h2, h3]; rfl
theorem attrsF_all : ∀ (n : Nat) (acc : List (List UInt8 × List UInt8)) (l : List UInt8) (a : List (List UInt8 × List UInt8)) (e : Bool) (rest : List UInt8), attrsF n acc l = some (a, e, rest) → allL l = true → attrsB acc = true → attrsB a = true ∧ allL rest = true
  | 0, acc, l, a, e, rest, h, _, _ => by cases h
  | n + 1, acc, l, a, e, rest, h, hl, hacc => by
    have hs : allL (skipL l) = true := allL_dw _ hl
    unfold attrsF at h
    split at h
    · injection h with h
      injection h with h1 h
      injection h with h2 h3
      subst h1 h3
      exact ⟨hacc, allL_drop _ hs⟩
    · split at h
      · injection h with h
        injection h with h1 h
        injection h with h2 h3
        subst h1 h3
        exact ⟨hacc, allL_drop _ hs⟩
      · split at h
        · cases h
        · cases ha : attrL (skipL l) with
          | none => rw [ha] at h; cases h
          | some y =>
            obtain ⟨b, rs⟩ := y
            rw [ha] at h
            dsimp only at h
            split at h
            · cases h
            · rename_i hc
              obtain ⟨h1, h2, h3⟩ := attrL_all ha hs
              exact attrsF_all n _ rs a e rest h h3 (attrsB_snoc hacc (by simpa using hc) h1 h2)
/-- what is so of a token -/
def TokOk (t : Tok) : Prop := (t.kind = 1 → nameL t.name = true ∧ attrsB t.attrs = true) ∧ (t.kind = 3 → allL t.text = true)
theorem tokL_ok {first : Bool} {l rest : List UInt8} {t : Tok} (h : tokL first l = some (t, rest)) (hl : allL l = true) : TokOk t ∧ allL rest = true := by
  have none1 : ∀ (k : Nat) (x : List UInt8), k ≠ 1 → k ≠ 3 → TokOk ⟨k, [], x, [], false⟩ := fun k x h1 h3 => ⟨fun e => absurd e h1, fun e => absurd e h3⟩
  unfold tokL at h
  split at h
  · unfold commentL at h
    cases hc : cutL [45, 45, 62] (l.drop 4) with
    | none => rw [hc] at h; cases h
    | some y =>
      obtain ⟨x, rs⟩ := y
      rw [hc] at h
      dsimp only at h
      split at h
      · cases h
      · injection h with h
        injection h with h1 h2
        subst h1 h2
        exact ⟨none1 4 x (by decide) (by decide), (allL_cut hc (allL_drop _ hl)).2⟩
  · split at h
    · cases hc : cutL [93, 93, 62] (l.drop 9) with
      | none => rw [hc] at h; cases h
      | some y =>
        obtain ⟨x, rs⟩ := y
        rw [hc] at h
        injection h with h
        injection h with h1 h2
        subst h1 h2
        have := allL_cut hc (allL_drop _ hl)
        exact ⟨⟨fun e => (by cases e), fun _ => this.1⟩, this.2⟩
    · split at h
      · split at h
        · cases hc : cutL [63, 62] (l.drop 2) with
          | none => rw [hc] at h; cases h
          | some y =>
            obtain ⟨x, rs⟩ := y
            rw [hc] at h
            injection h with h
            injection h with h1 h2
            subst h1 h2
            exact ⟨none1 5 x (by decide) (by decide), (allL_cut hc (allL_drop _ hl)).2⟩
        · cases h
      · split at h
        · unfold closeL at h
          split at h
          · cases h
          · split at h
            · injection h with h
              injection h with h1 h2
              subst h1 h2
              exact ⟨⟨fun e => (by cases e), fun e => (by cases e)⟩, allL_drop _ (allL_dw _ (nameP_all (allL_drop _ hl)))⟩
            · cases h
        · split at h
          · unfold openL at h
            split at h
            · cases h
            · rename_i hn
              cases ha : attrsF ((nameP (l.drop 1)).2.length + 1) [] (nameP (l.drop 1)).2 with
              | none => rw [ha] at h; cases h
              | some y =>
                obtain ⟨a, e, rs⟩ := y
                rw [ha] at h
                injection h with h
                injection h with h1 h2
                subst h1 h2
                have := attrsF_all _ _ _ a e rs ha (nameP_all (allL_drop _ hl)) rfl
                exact ⟨⟨fun _ => ⟨nameP_name hn, this.1⟩, fun e => (by cases e)⟩, this.2⟩
          · unfold textL at h
            cases he : entL (l.takeWhile (· != 60)) with
            | none => rw [he] at h; cases h
            | some x =>
              rw [he] at h
              injection h with h
              injection h with h1 h2
              subst h1 h2
              exact ⟨⟨fun e => (by cases e), fun _ => entF_all _ _ _ (allL_tw _ hl) he⟩, allL_dw _ hl⟩
theorem splitF_ok : ∀ (n : Nat) (first : Bool) (l : List UInt8) (ts : List Tok), allL l = true → splitF n first l = some ts → ∀ t ∈ ts, TokOk t
  | _, _, [], ts, _, h, t, ht => by
    unfold splitF at h
    injection h with h
    subst h
    cases ht
  | 0, _, c :: r, ts, _, h, t, ht => by cases h
  | n + 1, first, c :: r, ts, hl, h, t, ht => by
    unfold splitF at h
    cases hk : tokL first (c :: r) with
    | none => rw [hk] at h; cases h
    | some y =>
      obtain ⟨t0, rest⟩ := y
      rw [hk] at h
      dsimp only at h
      obtain ⟨h1, h2⟩ := tokL_ok hk hl
      cases hs : splitF n false rest with
      | none => rw [hs] at h; cases h
      | some us =>
        rw [hs] at h
        injection h with h
        subst h
        rcases List.mem_cons.1 ht with rfl | ht
        · exact h1
        · exact splitF_ok n false rest us h2 hs t ht
theorem splitT_tok {l : List UInt8} (t : Tok) (ht : t ∈ splitT l) : TokOk t := by
  unfold splitT at ht
  split at ht
  · cases ht
  · split at ht
    · rename_i ha
      cases hs : splitL l with
      | none => rw [hs] at ht; cases ht
      | some ts => rw [hs] at ht; exact splitF_ok _ _ _ ts ha hs t ht
    · cases ht
end Nwl

namespace Nwl
theorem nd_left {ns ms : List Nd} {i : Nat} (h : i < ns.length) : nd (ns ++ ms) i = nd ns i := by
  unfold nd
  rw [List.getD_eq_getElem?_getD, List.getD_eq_getElem?_getD, List.getElem?_append_left h]
theorem nd_last (ns : List Nd) (x : Nd) : nd (ns ++ [x]) ns.length = x := by
  unfold nd
  rw [List.getD_eq_getElem?_getD, List.getElem?_append_right (Nat.le_refl _), Nat.sub_self]; rfl
theorem par_left {ns ms : List Nd} {i : Int} (h : i.toNat < ns.length) : parAt (ns ++ ms) i = parAt ns i := by
  unfold parAt; rw [nd_left h]
theorem upL_left {ns : List Nd} (ms : List Nd) (h : Par ns ns.length) : ∀ (f : Nat) (i : Int), i < ns.length → upL (ns ++ ms) f i = upL ns f i
  | 0, i, _ => rfl
  | f + 1, i, hi => by
    unfold upL
    by_cases h0 : i < 0
    · rw [if_pos h0, if_pos h0]
    · have hp := h.at (i := i) (by omega) hi
      rw [if_neg h0, if_neg h0, par_left (by omega), upL_left ms h f _ (by omega)]
theorem chain_left {ns : List Nd} (ms : List Nd) (h : Par ns ns.length) {i : Int} (hi : i < ns.length) : chainL (ns ++ ms) i = chainL ns i := upL_left ms h _ _ hi
theorem inner_left {ns ms : List Nd} {i : Nat} (h : i < ns.length) : innerN (ns ++ ms) i = innerN ns i := by
  unfold innerN
  rw [nd_left h, par_left (by simpa using h)]
theorem eq_succ (ns : List Nd) (i : Nat) : mayStandB ns (i + 1) = ((chainL ns (innerN ns i)).contains (parAt ns (i + 1 : Nat)) && (if textB (nd ns (i + 1)) then !textB (nd ns i) || decide (parAt ns i ≠ parAt ns (i + 1 : Nat)) else decide ((chainL ns (i + 1 : Nat)).length ≤ 20))) := rfl
theorem stand_left {ns : List Nd} (ms : List Nd) (h : Par ns ns.length) {i : Nat} (hi : i < ns.length) : mayStandB (ns ++ ms) i = mayStandB ns i := by
  cases i with
  | zero =>
    unfold mayStandB
    rw [par_left (by simpa using hi), nd_left hi]
  | succ i =>
    have hb := innerN_bound (Par.le h (by omega : i + 1 ≤ ns.length))
    rw [eq_succ, eq_succ, inner_left (by omega), chain_left ms h (by omega), par_left (by simpa using hi), nd_left hi, nd_left (by omega), par_left (by simp; omega), chain_left ms h (by omega)]
theorem node_left {ns : List Nd} (ms : List Nd) (h : Par ns ns.length) {i : Nat} (hi : i < ns.length) : nodeB (ns ++ ms) i = nodeB ns i := by
  unfold nodeB
  rw [nd_left hi, stand_left ms h hi]
theorem right_snoc {ns : List Nd} {x : Nd} (h : rightTo ns ns.length = true) (hm : mayBeB x = true) (hs : mayStandB (ns ++ [x]) ns.length = true) : rightTo (ns ++ [x]) (ns ++ [x]).length = true := by
  have hp := right_par h
  rw [List.length_append, List.length_singleton]
  have h1 : rightTo (ns ++ [x]) ns.length = true := by
    unfold rightTo at h ⊢
    rw [List.all_eq_true] at h ⊢
    intro k hk
    rw [node_left [x] hp (List.mem_range.1 hk)]
    exact h k hk
  refine rightTo_next h1 ?_
  unfold nodeB
  rw [nd_last, hm, hs]; rfl
/-- nodes that are right so far, and what is open behind them -/
structure Std (ns : List Nd) (o : List Nat) : Prop where
  right : rightTo ns ns.length = true
  few : ∀ p ∈ o, p < ns.length
  chain : chainL ns (innerL o) = o.reverse.map (fun (p : Nat) => (p : Int))
  about : ∀ k, ns.length = k + 1 → o ≠ [] → innerL o ∈ chainL ns (innerN ns k)
theorem Std.inner {ns : List Nd} {o : List Nat} (h : Std ns o) : -1 ≤ innerL o ∧ innerL o < ns.length := by
  by_cases ho : o = []
  · subst ho; rw [innerL_nil]; omega
  · rw [innerL_ne ho]
    have := h.few _ (List.getElem_mem (by have := List.length_pos_iff.2 ho; omega : o.length - 1 < o.length))
    omega
theorem Std.ne {ns : List Nd} {o : List Nat} (h : Std ns o) (ho : o ≠ []) : 0 < ns.length ∧ 0 ≤ innerL o := by
  rw [innerL_ne ho]
  have := h.few _ (List.getElem_mem (by have := List.length_pos_iff.2 ho; omega : o.length - 1 < o.length))
  omega
theorem par_last (ns : List Nd) (x : Nd) : parAt (ns ++ [x]) (ns.length : Nat) = x.parent := by
  unfold parAt
  rw [Int.toNat_natCast, nd_last]
/-- one node more, in the innermost one -/
theorem Std.snoc {ns : List Nd} {o : List Nat} {x : Nd} (h : Std ns o) (hx : x.parent = innerL o) (hm : mayBeB x = true) (h0 : ns = [] → textB x = false) (h1 : ns ≠ [] → o ≠ []) (ht : textB x = true → ∀ k, ns.length = k + 1 → textB (nd ns k) = true → parAt ns k ≠ innerL o) (hd : textB x = false → o.length < 20) :
    Std (ns ++ [x]) o ∧ Par (ns ++ [x]) (ns.length + 1) ∧ chainL (ns ++ [x]) (ns.length : Nat) = (ns.length : Int) :: o.reverse.map (fun (p : Nat) => (p : Int)) := by
  have hp := right_par h.right
  have hin := h.inner
  have hch : chainL (ns ++ [x]) (innerL o) = o.reverse.map (fun (p : Nat) => (p : Int)) := by rw [chain_left [x] hp hin.2]; exact h.chain
  have hpar : Par (ns ++ [x]) (ns.length + 1) := by
    intro j hj
    by_cases e : j < ns.length
    · rw [par_left (by simpa using e)]; exact hp j e
    · obtain rfl : j = ns.length := by omega
      rw [par_last, hx]; omega
  have hstep : chainL (ns ++ [x]) (ns.length : Nat) = (ns.length : Int) :: o.reverse.map (fun (p : Nat) => (p : Int)) := by
    rw [chainL_step hpar (by omega) (by omega), par_last, hx, hch]
  have hs : mayStandB (ns ++ [x]) ns.length = true := by
    cases hl : ns.length with
    | zero =>
      have hn : ns = [] := List.eq_nil_of_length_eq_zero hl
      subst hn
      unfold mayStandB
      have ho : o = [] := by
        cases o with
        | nil => rfl
        | cons p o => have := h.few p (by simp); simp at this
      have e1 : parAt ([] ++ [x]) 0 = -1 := by
        have := par_last [] x
        rw [hx, ho, innerL_nil] at this
        exact this
      rw [e1, show nd ([] ++ [x]) 0 = x from rfl, h0 rfl]; rfl
    | succ k =>
      have hne : ns ≠ [] := fun e => by rw [e] at hl; cases hl
      have ho := h1 hne
      have hab := h.about k hl ho
      have hb := innerN_bound (Par.le hp (by omega : k + 1 ≤ ns.length))
      have hpl := par_last ns x
      rw [hl] at hpl
      have hnl := nd_last ns x
      rw [hl] at hnl
      have hc1 : (chainL (ns ++ [x]) (innerN (ns ++ [x]) k)).contains (parAt (ns ++ [x]) ((k + 1 : Nat) : Int)) = true := by
        rw [inner_left (by omega), chain_left [x] hp (by omega), hpl, hx, List.contains_iff_mem]; exact hab
      rw [eq_succ, hc1, Bool.true_and, hnl]
      cases htx : textB x with
      | true =>
        simp only [if_true]
        rw [nd_left (by omega), par_left (by simp; omega), hpl, hx]
        cases htk : textB (nd ns k) with
        | false => rfl
        | true =>
          have := ht htx k hl htk
          rw [decide_eq_true this]; rfl
      | false =>
        simp only [Bool.false_eq_true, if_false]
        rw [← hl, hstep]
        have := hd htx
        simp; omega
  refine ⟨⟨right_snoc h.right hm hs, fun p hp => ?_, hch, fun k hk ho => ?_⟩, hpar, hstep⟩
  · have := h.few p hp
    simp; omega
  · have hk' : k = ns.length := by simp at hk; omega
    subst hk'
    have hi := h.ne ho
    have hself : innerL o ∈ chainL (ns ++ [x]) (innerL o) := by
      rw [chainL_step hpar hi.2 (by omega)]; exact List.mem_cons_self ..
    unfold innerN
    rw [nd_last, par_last, hx]
    split
    · exact hself
    · rw [hstep]
      rw [hch] at hself
      exact List.mem_cons_of_mem _ hself
/-- a tree under way -/
structure Gst.Std (g : Gst) : Prop where
  std : Nwl.Std g.pre g.opn
  run : allL g.run = true
  ok : g.Ok
  beside : ∀ k, g.pre.length = k + 1 → textB (nd g.pre k) = true → parAt g.pre k ≠ innerL g.opn
  first : g.pre ≠ [] ∨ g.opn = []
theorem settle_std {g : Gst} (h : g.Std) : Nwl.Std g.settled g.opn := by
  unfold Gst.settled
  split
  · exact h.std
  · rename_i hr
    have ho : g.opn ≠ [] := fun e => hr (h.ok.out e)
    have hne : g.pre ≠ [] := by
      rcases h.first with h1 | h1
      · exact h1
      · exact absurd h1 ho
    refine (h.std.snoc (x := ⟨innerL g.opn, [], g.run, []⟩) rfl ?_ (fun e => absurd e hne) (fun _ => ho) (fun _ => h.beside) (fun e => by cases e)).1
    unfold mayBeB
    rw [show textB ⟨innerL g.opn, [], g.run, []⟩ = true from rfl, if_pos rfl, decide_eq_true hr, h.run]; rfl
/-- what is asked of a token -/
def TkiOk (t : Tki) : Prop := (t.kind = 1 → nameL t.name = true ∧ attrsB t.attrs = true) ∧ (t.kind = 3 → allL t.text = true)
theorem allL_cat {a b : List UInt8} (ha : allL a = true) (hb : allL b = true) : allL (a ++ b) = true := allL_app ha hb
theorem grow_std {g g' : Gst} {t : Tki} (h : g.Std) (ht : TkiOk t) (e : growG g t = .ok g') : g'.Std := by
  have hok := growG_ok h.ok e
  have hset := settle_std h
  have hlen := g.len
  have hge := settled_ge g
  unfold growG at e
  split at e
  · injection e with e; subst e; exact h
  · split at e
    · rename_i hk
      obtain ⟨hn, ha⟩ := ht.1 hk
      unfold openG at e
      split at e
      · cases e
      · rename_i hname
        split at e
        · cases e
        · rename_i htwo
          split at e
          · cases e
          · rename_i hdeep
            split at e
            · cases e
            · injection e with e
              have hb : mayBeB ⟨innerL g.opn, t.name, [], t.attrs⟩ = true := by
                unfold mayBeB
                have : textB ⟨innerL g.opn, t.name, [], t.attrs⟩ = false := decide_eq_false hname
                rw [this, if_neg (by decide), hn, ha]; rfl
              have htb : textB ⟨innerL g.opn, t.name, [], t.attrs⟩ = false := decide_eq_false hname
              obtain ⟨s1, s2, s3⟩ := hset.snoc (x := ⟨innerL g.opn, t.name, [], t.attrs⟩) rfl hb (fun _ => htb) (fun hne ho => htwo ⟨ho, by rw [← hlen]; exact List.length_pos_iff.2 hne⟩) (fun e => by rw [htb] at e; cases e) (fun _ => by omega)
              have hbes : ∀ (o : List Nat) k, (g.settled ++ [(⟨innerL g.opn, t.name, [], t.attrs⟩ : Nd)]).length = k + 1 → textB (nd (g.settled ++ [⟨innerL g.opn, t.name, [], t.attrs⟩]) k) = true → parAt (g.settled ++ [⟨innerL g.opn, t.name, [], t.attrs⟩]) k ≠ innerL o := by
                intro o k hk2 htk
                have : k = g.settled.length := by simp at hk2; omega
                rw [this, nd_last, htb] at htk
                cases htk
              subst e
              refine ⟨?_, rfl, hok, hbes _, .inl (by simp)⟩
              show Nwl.Std _ (if t.empty then g.opn else g.opn ++ [g.mem.length])
              split
              · exact s1
              · rw [← hlen]
                refine ⟨s1.right, fun p hp => ?_, ?_, fun k hk2 _ => ?_⟩
                · rcases List.mem_append.1 hp with hp | hp
                  · exact s1.few p hp
                  · rw [List.mem_singleton] at hp
                    subst hp; simp
                · rw [innerL_snoc, s3, List.reverse_append]; rfl
                · have : k = g.settled.length := by simp at hk2; omega
                  subst this
                  rw [innerL_snoc]
                  unfold innerN
                  rw [nd_last, htb]
                  simp only [Bool.false_eq_true, if_false]
                  rw [s3]; exact List.mem_cons_self ..
    · split at e
      · unfold closeG at e
        split at e
        · cases e
        · rename_i p hl
          split at e
          · injection e with e
            obtain ⟨o, ho⟩ := List.getLast?_eq_some_iff.1 hl
            have hp := right_par hset.right
            have hpl : p < g.settled.length := hset.few p (by rw [ho]; simp)
            have hch := hset.chain
            rw [ho, innerL_snoc, List.reverse_append, List.map_append] at hch
            rw [chainL_step hp (by omega) (by omega)] at hch
            have hch2 : chainL g.settled (parAt g.settled p) = o.reverse.map (fun (q : Nat) => (q : Int)) := by
              have := (List.cons.inj hch).2
              simpa using this
            have hpp := hp p hpl
            have hio : innerL o = parAt g.settled p := by
              by_cases hoe : o = []
              · subst hoe
                rw [innerL_nil]
                by_cases h0 : parAt g.settled p = -1
                · exact h0.symm
                · rw [chainL_step hp (by omega) (by omega)] at hch2
                  cases hch2
              · obtain ⟨o', q, hq⟩ : ∃ o' q, o = o' ++ [q] := ⟨o.dropLast, o.getLast hoe, (List.dropLast_concat_getLast hoe).symm⟩
                subst hq
                rw [innerL_snoc]
                by_cases h0 : parAt g.settled p = -1
                · rw [h0, chainL_neg] at hch2
                  simp at hch2
                · rw [chainL_step hp (by omega) (by omega), List.reverse_append] at hch2
                  exact (List.cons.inj hch2).1.symm
            have hlast : ∀ k, g.settled.length = k + 1 → (p : Int) ∈ chainL g.settled (innerN g.settled k) := by
              intro k hk2
              have := hset.about k hk2 (by rw [ho]; simp)
              rw [ho, innerL_snoc] at this
              exact this
            subst e
            have hdl : g.opn.dropLast = o := by rw [ho, List.dropLast_concat]
            refine ⟨⟨hset.right, fun q hq => ?_, ?_, fun k hk2 hoe => ?_⟩, rfl, hok, fun k hk2 htk => ?_, .inl ?_⟩
            · exact hset.few q (List.dropLast_subset _ hq)
            · show chainL g.settled (innerL g.opn.dropLast) = _
              rw [hdl, hio, hch2]
            · show innerL g.opn.dropLast ∈ _
              rw [hdl, hio]
              have hk3 : g.settled.length = k + 1 := hk2
              have hb := innerN_bound (Par.le hp (by omega : k + 1 ≤ g.settled.length))
              have hoe' : o ≠ [] := by rw [← hdl]; exact hoe
              refine chain_sub hp hb.1 (by omega) (hlast k hk2) _ ?_
              rw [chainL_step hp (by omega) (by omega)]
              refine List.mem_cons_of_mem _ ?_
              have h0 : parAt g.settled p ≠ -1 := by
                intro h0
                rw [h0, chainL_neg] at hch2
                have := congrArg List.length hch2
                simp at this
                exact hoe' (List.eq_nil_of_length_eq_zero this.symm)
              rw [chainL_step hp (by omega) (by omega)]; exact List.mem_cons_self ..
            · show parAt g.settled k ≠ innerL g.opn.dropLast
              rw [hdl, hio]
              have hk3 : g.settled.length = k + 1 := hk2
              have hin := hlast k hk2
              unfold innerN at hin
              rw [htk, if_pos rfl] at hin
              have hpk := hp k (by omega)
              have := chain_le hp hpk.1 (by omega) hin
              omega
            · show g.settled ≠ []
              intro e0
              rw [e0] at hpl
              simp at hpl
          · cases e
      · split at e
        · rename_i hk3
          have htx := ht.2 hk3
          unfold textG at e
          split at e
          · split at e
            · injection e with e; subst e; exact h
            · cases e
          · rename_i ho
            have hne : g.pre ≠ [] := by
              rcases h.first with h1 | h1
              · exact h1
              · exact absurd h1 ho
            split at e
            · injection e with e; subst e; exact h
            · split at e
              · split at e
                · cases e
                · injection e with e
                  subst e
                  exact ⟨h.std, htx, hok, h.beside, .inl hne⟩
              · injection e with e
                subst e
                exact ⟨h.std, allL_cat h.run htx, hok, h.beside, .inl hne⟩
        · cases e
theorem none_std : Gst.none.Std := ⟨⟨rfl, (fun p hp => by cases hp), rfl, (fun k hk => by cases hk)⟩, rfl, Gst.none_ok, (fun k hk => by cases hk), .inr rfl⟩
theorem tree_right : ∀ (ts : List Tki) (g : Gst) (ns : List Nd), g.Std → (∀ t ∈ ts, TkiOk t) → treeG g ts = .ok ns → rightB ns = true
  | [], g, ns, h, _, e => by
    unfold treeG endG at e
    split at e
    · cases e
    · rename_i hh
      injection e with e
      have ho : g.opn = [] := by
        by_cases q : g.opn = []
        · exact q
        · exact absurd (.inr q) hh
      have hr := h.ok.out ho
      have hm : g.mem = g.pre := by unfold Gst.mem; rw [if_pos hr]
      rw [hm] at e
      subst e
      have hne : g.pre ≠ [] := fun q => hh (.inl (by rw [hm, q]))
      have hf := h.ok.few
      rw [hm] at hf
      unfold rightB
      rw [decide_eq_true hne, decide_eq_true hf, h.std.right]; rfl
  | t :: ts, g, ns, h, ht, e => by
    unfold treeG at e
    cases hg : growG g t with
    | error n => rw [hg] at e; cases e
    | ok g' =>
      rw [hg] at e
      exact tree_right ts g' ns (grow_std h (ht t (by simp)) hg) (fun u hu => ht u (by simp [hu])) e
theorem parse_right {l : List UInt8} {ns : List Nd} (h : parseX l = .ok ns) : rightB ns = true := by
  unfold parseX at h
  split at h
  · refine tree_right _ _ ns none_std (fun t ht => ?_) h
    obtain ⟨u, hu, rfl⟩ := List.mem_map.1 ht
    have := splitT_tok u hu
    refine ⟨fun e => this.1 ?_, fun e => this.2 ?_⟩
    · have : (u.kind : Int) = 1 := e
      omega
    · have : (u.kind : Int) = 3 := e
      omega
  · cases h
end Nwl

namespace Nwl
open Go (Lib.cut Lib.index Lib.contains Lib.hasPrefix Lib.encodeRune)
def atW (l : List (List UInt8 × List UInt8)) : Nat := (l.map fun a => a.1.length + a.2.length + 1).sum
theorem atW_snoc (l : List (List UInt8 × List UInt8)) (a : List UInt8 × List UInt8) : atW (l ++ [a]) = atW l + (a.1.length + a.2.length + 1) := by
  unfold atW; rw [List.map_append, List.sum_append]; simp
/-- what a token weighs -/
def tokW (t : Tok) : Nat := t.name.length + t.text.length + atW t.attrs
theorem nameP_sum (l : List UInt8) : (nameP l).1.length + (nameP l).2.length = l.length := by
  unfold nameP
  split
  · rfl
  · split
    · rw [← List.length_append, List.takeWhile_append_dropWhile]
    · simp
theorem valueL_w {l v rest : List UInt8} (h : valueL l = some (v, rest)) : v.length + 4 * rest.length + 4 ≤ 4 * l.length := by
  unfold valueL at h
  split at h
  · cases h
  · rename_i c r
    split at h
    · cases hcut : cutL [c] r with
      | none => rw [hcut] at h; cases h
      | some y =>
        obtain ⟨raw, rs⟩ := y
        rw [hcut] at h
        dsimp only at h
        split at h
        · cases h
        · cases he : entL raw with
          | none => rw [he] at h; cases h
          | some z =>
            rw [he] at h
            injection h with h
            injection h with h1 h2
            subst h1 h2
            have h1 := cutL_two hcut
            have h2 := entF_len _ _ _ he
            rw [List.length_cons]
            omega
    · cases h
theorem attrL_w {l rest : List UInt8} {a : List UInt8 × List UInt8} (h : attrL l = some (a, rest)) : a.1.length + a.2.length + 1 + 4 * rest.length ≤ 4 * l.length := by
  unfold attrL at h
  split at h
  · cases h
  · have hs := nameP_sum l
    split at h
    · cases h
    · rename_i c r hsk
      have hk := skipL_le (nameP l).2
      rw [hsk, List.length_cons] at hk
      split at h
      · cases hv : valueL (skipL r) with
        | none => rw [hv] at h; cases h
        | some y =>
          obtain ⟨v, rs⟩ := y
          rw [hv] at h
          injection h with h
          injection h with h1 h2
          subst h1 h2
          have h1 := valueL_w hv
          have h2 := skipL_le r
          dsimp only
          omega
      · cases h
theorem attrsF_w : ∀ (n : Nat) (acc : List (List UInt8 × List UInt8)) (l : List UInt8) (a : List (List UInt8 × List UInt8)) (e : Bool) (rest : List UInt8), attrsF n acc l = some (a, e, rest) → atW a + 4 * rest.length ≤ atW acc + 4 * l.length
  | 0, acc, l, a, e, rest, h => by cases h
  | n + 1, acc, l, a, e, rest, h => by
    have hs := skipL_le l
    unfold attrsF at h
    split at h
    · injection h with h
      injection h with h1 h
      injection h with h2 h3
      subst h1 h3
      rw [List.length_drop]; omega
    · split at h
      · injection h with h
        injection h with h1 h
        injection h with h2 h3
        subst h1 h3
        rw [List.length_drop]; omega
      · split at h
        · cases h
        · cases ha : attrL (skipL l) with
          | none => rw [ha] at h; cases h
          | some y =>
            obtain ⟨b, rs⟩ := y
            rw [ha] at h
            dsimp only at h
            split at h
            · cases h
            · have h1 := attrL_w ha
              have h2 := attrsF_w n _ rs a e rest h
              rw [atW_snoc] at h2
              omega
theorem tokL_w {first : Bool} {l rest : List UInt8} {t : Tok} (h : tokL first l = some (t, rest)) : tokW t + 4 * rest.length ≤ 4 * l.length := by
  have plain : ∀ (k : Nat) (x y : List UInt8) (e : Bool), tokW ⟨k, y, x, [], e⟩ = y.length + x.length := fun k x y e => by unfold tokW atW; simp
  unfold tokL at h
  split at h
  · unfold commentL at h
    cases hc : cutL [45, 45, 62] (l.drop 4) with
    | none => rw [hc] at h; cases h
    | some y =>
      obtain ⟨x, rs⟩ := y
      rw [hc] at h
      dsimp only at h
      have := cutL_two hc
      rw [List.length_drop] at this
      split at h
      · cases h
      · injection h with h
        injection h with h1 h2
        subst h1 h2
        rw [plain, List.length_nil]; omega
  · split at h
    · cases hc : cutL [93, 93, 62] (l.drop 9) with
      | none => rw [hc] at h; cases h
      | some y =>
        obtain ⟨x, rs⟩ := y
        rw [hc] at h
        injection h with h
        injection h with h1 h2
        subst h1 h2
        have := cutL_two hc
        rw [List.length_drop] at this
        rw [plain, List.length_nil]; omega
    · split at h
      · split at h
        · cases hc : cutL [63, 62] (l.drop 2) with
          | none => rw [hc] at h; cases h
          | some y =>
            obtain ⟨x, rs⟩ := y
            rw [hc] at h
            injection h with h
            injection h with h1 h2
            subst h1 h2
            have := cutL_two hc
            rw [List.length_drop] at this
            rw [plain, List.length_nil]; omega
        · cases h
      · split at h
        · unfold closeL at h
          have hs := nameP_sum (l.drop 2)
          rw [List.length_drop] at hs
          split at h
          · cases h
          · split at h
            · injection h with h
              injection h with h1 h2
              subst h1 h2
              have := skipL_le (nameP (l.drop 2)).2
              rw [plain, List.length_nil, List.length_drop]; omega
            · cases h
        · split at h
          · unfold openL at h
            have hs := nameP_sum (l.drop 1)
            rw [List.length_drop] at hs
            split at h
            · cases h
            · cases ha : attrsF ((nameP (l.drop 1)).2.length + 1) [] (nameP (l.drop 1)).2 with
              | none => rw [ha] at h; cases h
              | some y =>
                obtain ⟨a, e, rs⟩ := y
                rw [ha] at h
                injection h with h
                injection h with h1 h2
                subst h1 h2
                have := attrsF_w _ _ _ _ _ _ ha
                have e0 : atW ([] : List (List UInt8 × List UInt8)) = 0 := rfl
                rw [e0] at this
                show (nameP (l.drop 1)).1.length + 0 + atW a + 4 * rs.length ≤ 4 * l.length
                omega
          · unfold textL at h
            cases he : entL (l.takeWhile (· != 60)) with
            | none => rw [he] at h; cases h
            | some x =>
              rw [he] at h
              injection h with h
              injection h with h1 h2
              subst h1 h2
              have h3 := entF_len _ _ _ he
              have h4 : (l.takeWhile (· != 60)).length + (l.dropWhile (· != 60)).length = l.length := by
                rw [← List.length_append, List.takeWhile_append_dropWhile]
              rw [plain, List.length_nil]; omega
theorem splitF_w : ∀ (n : Nat) (first : Bool) (l : List UInt8) (ts : List Tok), splitF n first l = some ts → (ts.map tokW).sum ≤ 4 * l.length
  | _, _, [], ts, h => by
    unfold splitF at h
    injection h with h
    subst h; simp
  | 0, _, c :: r, ts, h => by cases h
  | n + 1, first, c :: r, ts, h => by
    unfold splitF at h
    cases hk : tokL first (c :: r) with
    | none => rw [hk] at h; cases h
    | some y =>
      obtain ⟨t0, rest⟩ := y
      rw [hk] at h
      dsimp only at h
      have h1 := tokL_w hk
      cases hs : splitF n false rest with
      | none => rw [hs] at h; cases h
      | some us =>
        rw [hs] at h
        injection h with h
        subst h
        have h2 := splitF_w n false rest us hs
        rw [List.map_cons, List.sum_cons]
        omega
def tkiW (t : Tki) : Nat := t.name.length + t.text.length + atW t.attrs
/-- what the nodes weigh, so far -/
def BkOk (T : Nat) (g : Gst) : Prop := (∀ x ∈ g.pre, bulkN x ≤ T) ∧ g.run.length ≤ T
theorem bk_settled {T : Nat} {g : Gst} (h : BkOk T g) : ∀ x ∈ g.settled, bulkN x ≤ T := by
  unfold Gst.settled
  split
  · exact h.1
  · intro x hx
    rcases List.mem_append.1 hx with hx | hx
    · exact h.1 x hx
    · rw [List.mem_singleton] at hx
      subst hx
      have := h.2
      unfold bulkN
      simpa using this
theorem grow_bk {T : Nat} {g g' : Gst} {t : Tki} (h : BkOk T g) (hr : g.run.length + tkiW t ≤ T) (e : growG g t = .ok g') : BkOk T g' ∧ g'.run.length ≤ g.run.length + tkiW t := by
  have hset := bk_settled h
  unfold growG at e
  split at e
  · injection e with e; subst e; exact ⟨h, by omega⟩
  · split at e
    · unfold openG at e
      split at e
      · cases e
      · split at e
        · cases e
        · split at e
          · cases e
          · split at e
            · cases e
            · injection e with e
              subst e
              refine ⟨⟨fun x hx => ?_, by show 0 ≤ T; omega⟩, by show 0 ≤ _; omega⟩
              rcases List.mem_append.1 hx with hx | hx
              · exact hset x hx
              · rw [List.mem_singleton] at hx
                subst hx
                unfold tkiW atW at hr
                unfold bulkN
                simp only [List.length_nil]
                omega
    · split at e
      · unfold closeG at e
        split at e
        · cases e
        · split at e
          · injection e with e
            subst e
            exact ⟨⟨hset, by show 0 ≤ T; omega⟩, by show 0 ≤ _; omega⟩
          · cases e
      · split at e
        · unfold textG at e
          have ht : t.text.length ≤ tkiW t := by unfold tkiW; omega
          split at e
          · split at e
            · injection e with e; subst e; exact ⟨h, by omega⟩
            · cases e
          · split at e
            · injection e with e; subst e; exact ⟨h, by omega⟩
            · split at e
              · split at e
                · cases e
                · injection e with e
                  subst e
                  exact ⟨⟨h.1, by show t.text.length ≤ T; omega⟩, by show t.text.length ≤ _; omega⟩
              · injection e with e
                subst e
                refine ⟨⟨h.1, ?_⟩, ?_⟩
                · show (g.run ++ t.text).length ≤ T
                  rw [List.length_append]; omega
                · show (g.run ++ t.text).length ≤ _
                  rw [List.length_append]; omega
        · cases e
theorem tree_bk {T : Nat} : ∀ (ts : List Tki) (g : Gst) (ns : List Nd), BkOk T g → g.Ok → g.run.length + (ts.map tkiW).sum ≤ T → treeG g ts = .ok ns → ∀ x ∈ ns, bulkN x ≤ T
  | [], g, ns, h, hok, _, e => by
    unfold treeG endG at e
    split at e
    · cases e
    · rename_i hh
      injection e with e
      have ho : g.opn = [] := by
        by_cases q : g.opn = []
        · exact q
        · exact absurd (.inr q) hh
      have hr := hok.out ho
      have hm : g.mem = g.pre := by unfold Gst.mem; rw [if_pos hr]
      rw [hm] at e
      subst e
      exact h.1
  | t :: ts, g, ns, h, hok, hs, e => by
    rw [List.map_cons, List.sum_cons] at hs
    unfold treeG at e
    cases hg : growG g t with
    | error n => rw [hg] at e; cases e
    | ok g' =>
      rw [hg] at e
      obtain ⟨h1, h2⟩ := grow_bk h (by omega) hg
      exact tree_bk ts g' ns h1 (growG_ok hok hg) (by omega) e
theorem parse_bk {l : List UInt8} {ns : List Nd} (h : parseX l = .ok ns) : ∀ x ∈ ns, bulkN x ≤ 80000 := by
  unfold parseX at h
  split at h
  · refine tree_bk _ _ ns ⟨(fun x hx => by cases hx), Nat.zero_le _⟩ Gst.none_ok ?_ h
    have hsum : ((splitT l).map tokW).sum ≤ 80000 := by
      unfold splitT
      split
      · simp
      · split
        · cases hs : splitL l with
          | none => simp
          | some ts =>
            have := splitF_w _ _ _ ts hs
            simp only [Option.getD_some]
            omega
        · simp
    have e : ((splitT l).map Tok.up).map tkiW = (splitT l).map tokW := by
      rw [List.map_map]; rfl
    rw [e]
    show 0 + _ ≤ 80000
    omega
  · cases h
theorem small_all {ns : List Nd} {M K : Nat} (h : ∀ x ∈ ns, bulkN x ≤ M) (hK : M ≤ K) : Small ns K := by
  intro i
  unfold nd
  rw [List.getD_eq_getElem?_getD]
  rcases Nat.lt_or_ge i ns.length with hi | hi
  · rw [List.getElem?_eq_getElem hi]
    exact Nat.le_trans (h _ (List.getElem_mem hi)) hK
  · rw [List.getElem?_eq_none hi]
    unfold bulkN
    simp
/-- what is so of each right node -/
theorem right_each {ns : List Nd} (h : rightB ns = true) : ∀ i : Nat, i < ns.length → (i = 0 → parAt ns i = -1 ∧ textB (nd ns i) = false) ∧ (0 < i → ∃ q : Nat, parAt ns i = q ∧ q < i ∧ textB (nd ns q) = false) ∧ (textB (nd ns i) = true → (nd ns i).text ≠ []) ∧ (textB (nd ns i) = false → (nd ns i).text = []) := by
  intro i hi
  have hr : rightTo ns ns.length = true := by
    unfold rightB at h
    rw [Bool.and_eq_true, Bool.and_eq_true] at h
    exact h.2.2
  have hp := right_par hr
  have hn := rightTo_at hr hi
  unfold nodeB at hn
  rw [Bool.and_eq_true] at hn
  refine ⟨fun e => ?_, fun h0 => ?_, fun ht => ?_, fun ht => ?_⟩
  · subst e
    exact first_in (right_le hr (by omega))
  · obtain ⟨k, rfl⟩ : ∃ k, i = k + 1 := ⟨i - 1, by omega⟩
    have h1 := stand_in (i := k) (right_le hr (by omega))
    have hb := innerN_bound (Par.le hp (by omega : k + 1 ≤ ns.length))
    have h2 := chain_le hp hb.1 (by omega) h1
    have h3 := open_elem k (right_le hr (by omega)) _ h1
    refine ⟨(parAt ns ((k + 1 : Nat) : Int)).toNat, by omega, by omega, h3⟩
  · have hm := hn.1
    unfold mayBeB at hm
    rw [ht, if_pos rfl, Bool.and_eq_true, decide_eq_true_eq] at hm
    exact hm.1
  · have hm := hn.1
    unfold mayBeB at hm
    rw [ht, if_neg (by decide), Bool.and_eq_true, decide_eq_true_eq] at hm
    exact hm.1
theorem rightB_few {ns : List Nd} (h : rightB ns = true) : ns ≠ [] ∧ ns.length ≤ 2000 := by
  unfold rightB at h
  rw [Bool.and_eq_true, Bool.and_eq_true, decide_eq_true_iff, decide_eq_true_iff] at h
  exact ⟨h.1, h.2.1⟩
theorem parse_ne {l : List UInt8} {n : Int} (h : parseX l = .error n) : n ≠ 0 := by
  have key : ∀ (ts : List Tki) (g : Gst), treeG g ts = .error n → n ≠ 0 := by
    intro ts
    induction ts with
    | nil =>
      intro g e
      simp only [treeG, endG] at e
      split at e
      · injection e with e; omega
      · cases e
    | cons t ts ih =>
      intro g e
      simp only [treeG] at e
      split at e
      · rename_i m hx
        injection e with e
        subst e
        exact growG_err hx
      · rename_i g' hx
        exact ih g' e
  unfold parseX at h
  split at h
  · exact key _ _ h
  · rename_i hne
    injection h with h
    subst h
    exact hne
end Nwl

namespace Nwl.Bk
open Nwl
open Go
theorem cutL_cons (c b : UInt8) (l : List UInt8) : cutL [c] (b :: l) = if b = c then some ([], l) else (cutL [c] l).map fun x => (b :: x.1, x.2) := by
  unfold cutL
  have hp : [c].isPrefixOf (b :: l) = (c == b) := by
    show ((c == b) && ([] : List UInt8).isPrefixOf l) = _
    rw [List.isPrefixOf, Bool.and_true]
  have hi : Lib.index (b :: l) [c] = if b = c then 0 else if Lib.index l [c] = -1 then -1 else Lib.index l [c] + 1 := by
    rw [Lib.index, hp]
    by_cases e : b = c
    · subst e; simp
    · rw [if_neg (by rw [beq_iff_eq]; exact fun h => e h.symm), if_neg e]
      by_cases e2 : Lib.index l [c] = -1
      · rw [if_pos (by rw [beq_iff_eq]; exact e2), if_pos e2]
      · rw [if_neg (by rw [beq_iff_eq]; exact e2), if_neg e2]
  rw [hi]
  have hge := Lib.index_ge l [c]
  by_cases e : b = c
  · rw [if_pos e, if_pos e]; simp
  · rw [if_neg e, if_neg e]
    by_cases e2 : Lib.index l [c] = -1
    · rw [if_pos e2, if_neg (by omega), if_neg (by omega)]; rfl
    · rw [if_neg e2, if_pos (by omega), if_pos (by omega)]
      have h1 : (Lib.index l [c] + 1).toNat = (Lib.index l [c]).toNat + 1 := by omega
      rw [h1]
      simp only [Option.map_some, List.take_succ_cons, List.length_cons, List.length_nil, List.drop_succ_cons]
theorem cut_at (c : UInt8) : ∀ (l r : List UInt8), c ∉ l → cutL [c] (l ++ c :: r) = some (l, r)
  | [], r, _ => by rw [List.nil_append, cutL_cons, if_pos rfl]
  | d :: l, r, h => by
    rw [List.cons_append, cutL_cons, if_neg (by intro e; exact h (by simp [e])), cut_at c l r (fun hm => h (List.mem_cons_of_mem _ hm))]
    rfl
theorem pre_no (c : UInt8) (r p : List UInt8) (d : UInt8) (h : c ≠ d) : Lib.hasPrefix (c :: r) (d :: p) = false := by
  unfold Lib.hasPrefix
  rw [List.isPrefixOf, beq_false_of_ne (Ne.symm h)]
  rfl
theorem pre_yes (c : UInt8) (r : List UInt8) : Lib.hasPrefix (c :: r) [c] = true := by
  unfold Lib.hasPrefix
  simp [List.isPrefixOf]
theorem not_contains {l : List UInt8} {c : UInt8} (h : c ∉ l) : l.contains c = false := by
  rw [List.contains_eq_mem]
  exact decide_eq_false h
theorem char_lt : charL [108, 116] = some 60 := by decide
theorem char_gt : charL [103, 116] = some 62 := by decide
theorem char_amp : charL [97, 109, 112] = some 38 := by decide
theorem char_quot : charL [113, 117, 111, 116] = some 34 := by decide
theorem ent_esc1 (c : UInt8) (r : List UInt8) : entL (esc1 c ++ r) = (entL r).map (c :: ·) := by
  unfold esc1
  by_cases h1 : c = 38
  · subst h1; rw [if_pos rfl]; show entL (38 :: 97 :: 109 :: 112 :: 59 :: r) = _; rw [entL_amp, entAt]; simp [cutL_cons, char_amp]; rfl
  rw [if_neg h1]
  by_cases h2 : c = 60
  · subst h2; rw [if_pos rfl]; show entL (38 :: 108 :: 116 :: 59 :: r) = _; rw [entL_amp, entAt]; simp [cutL_cons, char_lt]; rfl
  rw [if_neg h2]
  by_cases h3 : c = 62
  · subst h3; rw [if_pos rfl]; show entL (38 :: 103 :: 116 :: 59 :: r) = _; rw [entL_amp, entAt]; simp [cutL_cons, char_gt]; rfl
  rw [if_neg h3]
  by_cases h4 : c = 34
  · subst h4; rw [if_pos rfl]; show entL (38 :: 113 :: 117 :: 111 :: 116 :: 59 :: r) = _; rw [entL_amp, entAt]; simp [cutL_cons, char_quot]; rfl
  rw [if_neg h4]
  exact entL_plain1 c r h1
theorem ent_esc : ∀ l : List UInt8, entL (escL l) = some l
  | [] => rfl
  | c :: l => by rw [escL, ent_esc1, ent_esc l]; rfl
theorem esc_all {l : List UInt8} (h : allL l = true) : allL (escL l) = true := by
  unfold allL at h ⊢
  rw [List.all_eq_true] at h ⊢
  intro d hd
  rcases esc_mem hd with ⟨h1, _⟩ | h1
  · exact h d h1
  · have : ∀ d ∈ ([38, 97, 109, 112, 59, 108, 116, 103, 113, 117, 111] : List UInt8), allowedI d.toNat = true := by decide
    exact this d h1
theorem value_esc (s r : List UInt8) : valueL (34 :: (escL s ++ 34 :: r)) = some (s, r) := by
  unfold valueL
  simp only [true_or, if_true]
  rw [cut_at 34 (escL s) r (esc_34 s)]
  simp only []
  rw [not_contains (esc_60 s), ent_esc]
  rfl
theorem take_in : ∀ (D r : List UInt8) (b : UInt8), (∀ c ∈ D, within8 c = true) → within8 b = false → (D ++ b :: r).takeWhile within8 = D ∧ (D ++ b :: r).dropWhile within8 = b :: r
  | [], r, b, _, hb => by simp [hb]
  | c :: D, r, b, h, hb => by
    have hc := h c (by simp)
    have := take_in D r b (fun d hd => h d (List.mem_cons_of_mem _ hd)) hb
    simp only [List.cons_append, List.takeWhile_cons, List.dropWhile_cons, hc, if_true]
    rw [this.1]
    exact ⟨rfl, this.2⟩
/-- a name begins so -/
theorem name_form {n : List UInt8} (h : nameL n = true) : ∃ c D, n = c :: D ∧ beginI c.toNat = true ∧ ∀ d ∈ n, within8 d = true := by
  cases n with
  | nil => cases h
  | cons c D =>
    have h2 : (beginI c.toNat && D.all within8) = true := h
    rw [Bool.and_eq_true, List.all_eq_true] at h2
    refine ⟨c, D, rfl, h2.1, fun d hd => ?_⟩
    rcases List.mem_cons.1 hd with e | e
    · subst e; exact begin_within _ h2.1
    · exact h2.2 d e
theorem name_in {n : List UInt8} (h : nameL n = true) (b : UInt8) (r : List UInt8) (hb : within8 b = false) : nameP (n ++ b :: r) = (n, b :: r) := by
  obtain ⟨c, D, rfl, hc, hw⟩ := name_form h
  have := take_in (c :: D) r b hw hb
  unfold nameP
  show (if beginI c.toNat = true then ((c :: (D ++ b :: r)).takeWhile within8, (c :: (D ++ b :: r)).dropWhile within8) else _) = _
  rw [if_pos hc]
  rw [List.cons_append] at this
  rw [this.1, this.2]
theorem name_ne {n : List UInt8} (h : nameL n = true) : n ≠ [] := by
  rintro rfl; cases h
theorem begin_no {c d : UInt8} (h : beginI c.toNat = true) (hd : beginI d.toNat = false) : c ≠ d := by
  rintro rfl; rw [h] at hd; cases hd
theorem begin_sp {c : UInt8} (h : beginI c.toNat = true) : space8 c = false := by
  cases hs : space8 c with
  | false => rfl
  | true =>
    exfalso
    unfold space8 spaceI at hs
    unfold beginI letterI upperI at h
    simp only [Bool.or_eq_true, Bool.and_eq_true, decide_eq_true_eq, beq_iff_eq] at hs h
    omega
theorem within_ok {c : UInt8} (h : within8 c = true) : allowedI c.toNat = true := by
  unfold within8 withinI beginI letterI upperI digitI at h
  unfold allowedI
  simp only [Bool.or_eq_true, Bool.and_eq_true, decide_eq_true_eq, beq_iff_eq] at h ⊢
  right; omega
theorem name_all {n : List UInt8} (h : nameL n = true) : allL n = true := by
  obtain ⟨c, D, rfl, hc, hw⟩ := name_form h
  unfold allL
  rw [List.all_eq_true]
  exact fun d hd => within_ok (hw d hd)
theorem skip_no {c : UInt8} (r : List UInt8) (h : space8 c = false) : skipL (c :: r) = c :: r := by
  unfold skipL
  rw [List.dropWhile_cons, if_neg (by rw [h]; decide)]
theorem skip_name {n : List UInt8} (r : List UInt8) (h : nameL n = true) : skipL (n ++ r) = n ++ r := by
  obtain ⟨c, D, rfl, hc, _⟩ := name_form h
  exact skip_no _ (begin_sp hc)
theorem attr_in (a : List UInt8 × List UInt8) (h : nameL a.1 = true) (r : List UInt8) : attrL (a.1 ++ 61 :: 34 :: (escL a.2 ++ 34 :: r)) = some (a, r) := by
  have h1 : skipL (61 :: 34 :: (escL a.2 ++ 34 :: r)) = 61 :: 34 :: (escL a.2 ++ 34 :: r) := rfl
  have h2 : skipL (34 :: (escL a.2 ++ 34 :: r)) = 34 :: (escL a.2 ++ 34 :: r) := rfl
  unfold attrL
  rw [name_in h 61 _ (by decide)]
  simp only [h1, h2, value_esc, if_neg (name_ne h), if_true]
  rfl
/-- a beginning's end -/
def tailE (e : Bool) : List UInt8 := if e then [47, 62] else [62]
theorem attrs_at {acc l : List (List UInt8 × List UInt8)} {a : List UInt8 × List UInt8} (h : attrsB (acc ++ a :: l) = true) : (acc.map (·.1)).contains a.1 = false ∧ nameL a.1 = true ∧ allL a.2 = true := by
  unfold attrsB attrsTo at h
  rw [List.all_eq_true] at h
  have := h acc.length (List.mem_range.2 (by simp))
  unfold attrAtB at this
  rw [List.getElem?_append_right (Nat.le_refl _), Nat.sub_self] at this
  simp only [List.getElem?_cons_zero, List.take_left] at this
  rw [Bool.and_eq_true, Bool.and_eq_true, Bool.not_eq_true'] at this
  exact this
theorem attrs_in : ∀ (l acc : List (List UInt8 × List UInt8)) (e : Bool) (r : List UInt8), attrsB (acc ++ l) = true → attrsL acc (attrsW l ++ (tailE e ++ r)) = some (acc ++ l, e, r)
  | [], acc, e, r, _ => by
    rw [List.append_nil]
    show attrsL acc (tailE e ++ r) = _
    cases e with
    | false =>
      rw [attrsL_eq]
      have h2 : skipL (tailE false ++ r) = 62 :: r := skip_no r (by decide)
      rw [h2, pre_yes]
      rfl
    | true =>
      rw [attrsL_eq]
      have h2 : skipL (tailE true ++ r) = 47 :: 62 :: r := skip_no _ (by decide)
      rw [h2, pre_no _ _ _ _ (by decide), if_neg (by decide)]
      rw [if_pos (by unfold Lib.hasPrefix; simp [List.isPrefixOf])]
      rfl
  | a :: l, acc, e, r, h => by
    obtain ⟨h1, h2, h3⟩ := attrs_at h
    have hx : attrsW (a :: l) ++ (tailE e ++ r) = 32 :: (a.1 ++ 61 :: 34 :: (escL a.2 ++ 34 :: (attrsW l ++ (tailE e ++ r)))) := by
      unfold attrsW
      rw [List.flatMap_cons]
      unfold attrW
      simp
    have hs : skipL (32 :: (a.1 ++ 61 :: 34 :: (escL a.2 ++ 34 :: (attrsW l ++ (tailE e ++ r))))) = a.1 ++ 61 :: 34 :: (escL a.2 ++ 34 :: (attrsW l ++ (tailE e ++ r))) := by
      show skipL (a.1 ++ _) = _
      exact skip_name _ h2
    have hp : ∀ (d : UInt8) (p : List UInt8), beginI d.toNat = false → Lib.hasPrefix (a.1 ++ 61 :: 34 :: (escL a.2 ++ 34 :: (attrsW l ++ (tailE e ++ r)))) (d :: p) = false := fun d p hd => by
      obtain ⟨c, D, he, hc, _⟩ := name_form h2
      rw [he]
      exact pre_no _ _ _ _ (begin_no hc hd)
    rw [hx, attrsL_eq, hs, hp _ _ (by decide), hp _ _ (by decide), attr_in a h2]
    rw [if_neg (by decide), if_neg (by decide), if_neg (by simp)]
    simp only [h1]
    rw [if_neg (by decide), attrs_in l (acc ++ [a]) e r (by simpa using h)]
    simp
theorem after_name (l : List (List UInt8 × List UInt8)) (e : Bool) (r : List UInt8) : ∃ b t, attrsW l ++ (tailE e ++ r) = b :: t ∧ within8 b = false := by
  cases l with
  | nil => cases e <;> exact ⟨_, _, rfl, by decide⟩
  | cons a l =>
    refine ⟨32, a.1 ++ [61, 34] ++ escL a.2 ++ [34] ++ (attrsW l ++ (tailE e ++ r)), ?_, by decide⟩
    unfold attrsW
    rw [List.flatMap_cons]
    unfold attrW
    simp
theorem tok_open {n : List UInt8} {l : List (List UInt8 × List UInt8)} (h : nameL n = true) (hl : attrsB l = true) (e f : Bool) (r : List UInt8) : tokL f (60 :: (n ++ (attrsW l ++ (tailE e ++ r)))) = some (⟨1, n, [], l, e⟩, r) := by
  obtain ⟨c, D, he, hc, _⟩ := name_form h
  obtain ⟨b, t, hb, hw⟩ := after_name l e r
  have p2 : ∀ (d : UInt8) (p : List UInt8), beginI d.toNat = false → Lib.hasPrefix (60 :: (n ++ (attrsW l ++ (tailE e ++ r)))) (60 :: d :: p) = false := fun d p hd => by
    unfold Lib.hasPrefix
    rw [he, List.cons_append, List.isPrefixOf, List.isPrefixOf, beq_false_of_ne (Ne.symm (begin_no hc hd))]
    rfl
  unfold tokL
  rw [p2 33 _ (by decide), p2 33 _ (by decide), p2 63 _ (by decide), p2 47 _ (by decide), pre_yes]
  show openL (n ++ (attrsW l ++ (tailE e ++ r))) = _
  unfold openL
  have hn : nameP (n ++ (attrsW l ++ (tailE e ++ r))) = (n, attrsW l ++ (tailE e ++ r)) := by
    rw [hb]; exact name_in h b t hw
  rw [hn]
  have ha := attrs_in l [] e r (by simpa using hl)
  rw [if_neg (name_ne h)]
  show (attrsL [] (attrsW l ++ (tailE e ++ r))).map _ = _
  rw [ha]
  rfl
theorem tok_close {n : List UInt8} (h : nameL n = true) (f : Bool) (r : List UInt8) : tokL f (60 :: 47 :: (n ++ 62 :: r)) = some (⟨2, n, [], [], false⟩, r) := by
  have p2 : ∀ (d : UInt8) (p : List UInt8), 47 ≠ d → Lib.hasPrefix (60 :: 47 :: (n ++ 62 :: r)) (60 :: d :: p) = false := fun d p hd => by
    unfold Lib.hasPrefix
    rw [List.isPrefixOf, List.isPrefixOf, beq_false_of_ne (Ne.symm hd)]
    rfl
  have p3 : Lib.hasPrefix (60 :: 47 :: (n ++ 62 :: r)) [60, 47] = true := by unfold Lib.hasPrefix; simp [List.isPrefixOf]
  unfold tokL
  rw [p2 33 _ (by decide), p2 33 _ (by decide), p2 63 _ (by decide), p3]
  show closeL (n ++ 62 :: r) = _
  unfold closeL
  have hs : skipL (62 :: r) = 62 :: r := skip_no r (by decide)
  rw [name_in h 62 r (by decide)]
  simp only [hs, pre_yes, if_neg (name_ne h), if_true]
  rfl
/-- what stands behind a text -/
def Stop (r : List UInt8) : Prop := r = [] ∨ ∃ t, r = 60 :: t
theorem text_take : ∀ (E r : List UInt8), 60 ∉ E → Stop r → (E ++ r).takeWhile (· != 60) = E ∧ (E ++ r).dropWhile (· != 60) = r
  | [], r, _, h => by
    rcases h with rfl | ⟨t, rfl⟩ <;> simp
  | c :: E, r, h, hr => by
    have hc : (c != 60) = true := by simp; intro e; exact h (by simp [e])
    have := text_take E r (fun hm => h (List.mem_cons_of_mem _ hm)) hr
    simp only [List.cons_append, List.takeWhile_cons, List.dropWhile_cons, hc, if_true]
    rw [this.1]
    exact ⟨rfl, this.2⟩
theorem esc_ne {s : List UInt8} (hs : s ≠ []) : ∃ c e, escL s = c :: e := by
  cases s with
  | nil => exact absurd rfl hs
  | cons c l =>
    have := (esc1_len c).1
    rw [escL]
    cases h : esc1 c with
    | nil => rw [h] at this; simp at this
    | cons d e => exact ⟨d, e ++ escL l, rfl⟩
theorem tok_text {s r : List UInt8} (f : Bool) (hs : s ≠ []) (hr : Stop r) : tokL f (escL s ++ r) = some (⟨3, [], s, [], false⟩, r) := by
  obtain ⟨c, e, he⟩ := esc_ne hs
  have hc : c ≠ 60 := fun h => esc_60 s (by rw [he, h]; simp)
  have ht := text_take (escL s) r (esc_60 s) hr
  unfold tokL
  have hp : ∀ p : List UInt8, Lib.hasPrefix (escL s ++ r) (60 :: p) = false := fun p => by
    rw [he, List.cons_append]
    exact pre_no _ _ _ _ hc
  rw [hp, hp, hp, hp, hp]
  show textL (escL s ++ r) = _
  unfold textL
  rw [ht.1, ht.2, ent_esc]
  rfl
end Nwl.Bk

namespace Nwl.Bk
open Nwl
open Go
/-- what a text makes of a tree under way -/
def runF (f : Bool) (l : List UInt8) (g : Gst) : Option (Except Int (List Nd)) := (splitM f l).map fun ts => treeG g (ts.map Tok.up)
theorem runF_step {f : Bool} {l r : List UInt8} {t : Tok} {g g' : Gst} (hl : l ≠ []) (ht : tokL f l = some (t, r)) (hg : growG g t.up = .ok g') : runF f l g = runF false r g' := by
  unfold runF
  rw [splitM_step hl, ht]
  simp only []
  rw [Option.map_map]
  congr 1
  funext ts
  show treeG g (t.up :: ts.map Tok.up) = _
  rw [treeG, hg]
def opnL (ns : List Nd) (o : Int) : List Nat := (chainL ns o).reverse.map Int.toNat
theorem opnL_neg (ns : List Nd) : opnL ns (-1) = [] := rfl
theorem opnL_step {ns : List Nd} {m : Nat} (h : Par ns m) {i : Int} (h0 : 0 ≤ i) (h1 : i < m) : opnL ns i = opnL ns (parAt ns i) ++ [i.toNat] := by
  unfold opnL; rw [chainL_step h h0 h1]; simp
theorem opnL_len (ns : List Nd) (i : Int) : (opnL ns i).length = (chainL ns i).length := by unfold opnL; simp
theorem innerL_opn {ns : List Nd} {m : Nat} (h : Par ns m) {i : Int} (h0 : -1 ≤ i) (h1 : i < m) : innerL (opnL ns i) = i := by
  by_cases hi : i < 0
  · obtain rfl : i = -1 := by omega
    rfl
  · rw [opnL_step h (by omega) h1, innerL_snoc, Int.toNat_of_nonneg (by omega)]
theorem elem_in {ns : List Nd} {m i : Nat} (h : rightTo ns m = true) (hi : i < m) (ht : textB (nd ns i) = false) : nameL (nd ns i).name = true ∧ attrsB (nd ns i).attrs = true ∧ (nd ns i).text = [] := by
  have hn := rightTo_at h hi
  unfold nodeB at hn
  rw [Bool.and_eq_true] at hn
  have hm := hn.1
  unfold mayBeB at hm
  rw [ht, if_neg (by decide), Bool.and_eq_true, Bool.and_eq_true, decide_eq_true_eq] at hm
  exact ⟨hm.2.1, hm.2.2, hm.1⟩
theorem text_in {ns : List Nd} {m i : Nat} (h : rightTo ns m = true) (hi : i < m) (ht : textB (nd ns i) = true) : (nd ns i).name = [] ∧ (nd ns i).text ≠ [] ∧ allL (nd ns i).text = true ∧ (nd ns i).attrs = [] := by
  have hn := rightTo_at h hi
  unfold nodeB at hn
  rw [Bool.and_eq_true] at hn
  have hm := hn.1
  unfold mayBeB at hm
  rw [ht, if_pos rfl, Bool.and_eq_true, Bool.and_eq_true, decide_eq_true_eq, decide_eq_true_eq] at hm
  exact ⟨of_decide_eq_true ht, hm.1, hm.2.1, hm.2.2⟩
theorem end_form (n r : List UInt8) : endL n ++ r = 60 :: 47 :: (n ++ 62 :: r) := by unfold endL; simp
theorem close_one {ns : List Nd} {m : Nat} (hp : Par ns m) {g : Gst} {o : Int} (h0 : 0 ≤ o) (hm : o < m) (hg : g.opn = opnL ns o) (hn : nameAt g.pre o.toNat = (nd ns o.toNat).name) (hname : nameL (nd ns o.toNat).name = true) (f : Bool) (r : List UInt8) :
    runF f (endL (nd ns o.toNat).name ++ r) g = runF false r ⟨g.settled, opnL ns (parAt ns o), []⟩ := by
  rw [end_form]
  refine runF_step (by simp) (tok_close hname f r) ?_
  have hl := hg.trans (opnL_step hp h0 hm)
  show closeG g (nd ns o.toNat).name = _
  unfold closeG
  rw [hl, List.getLast?_append]
  simp only [List.getLast?_singleton, Option.some_or]
  rw [if_pos hn, List.dropLast_concat]
theorem take_name {ns : List Nd} {k j : Nat} (h : j < k) (hk : k ≤ ns.length) : nameAt (ns.take k) j = (nd ns j).name := by
  unfold nameAt
  rw [List.getElem?_take_of_lt h, nd_eq ns j (by omega), List.getElem?_eq_getElem (by omega)]
  rfl
theorem close_all {ns : List Nd} (hp : Par ns ns.length) {k : Nat} (hk : k ≤ ns.length) : ∀ (f : Nat) (o t : Int), o + 1 ≤ f → -1 ≤ o → o < k → (t = -1 ∨ t ∈ chainL ns o) → (∀ x ∈ chainL ns o, nameL (nd ns x.toNat).name = true) → ∀ r, runF false (closeW ns o t ++ r) ⟨ns.take k, opnL ns o, []⟩ = runF false r ⟨ns.take k, opnL ns t, []⟩
  | 0, o, t, hf, h0, h1, ht, _, r => by
    obtain rfl : o = -1 := by omega
    rcases ht with rfl | ht
    · rw [closeW_same]; rfl
    · rw [chainL_neg] at ht; cases ht
  | f + 1, o, t, hf, h0, h1, ht, hel, r => by
    by_cases e : o = t
    · subst e; rw [closeW_same]; rfl
    · have ho : 0 ≤ o := by
        by_cases hi : o < 0
        · obtain rfl : o = -1 := by omega
          rcases ht with rfl | ht
          · exact absurd rfl e
          · rw [chainL_neg] at ht; cases ht
        · omega
      have hc := chainL_step hp ho (by omega : o < (ns.length : Int))
      have hpo := hp.at ho (by omega : o < (ns.length : Int))
      rw [closeW_step hp ho (by omega) e, List.append_assoc]
      rw [close_one hp (g := ⟨ns.take k, opnL ns o, []⟩) ho (by omega) rfl (take_name (by omega) hk) (hel o (by rw [hc]; exact List.mem_cons_self ..)) false]
      refine close_all hp hk f _ t (by omega) (by omega) (by omega) ?_ (fun x hx => hel x (by rw [hc]; exact List.mem_cons_of_mem _ hx)) r
      rcases ht with ht | ht
      · exact .inl ht
      · rw [hc] at ht
        rcases List.mem_cons.1 ht with ht | ht
        · exact absurd ht.symm e
        · exact .inr ht
theorem close_from {ns : List Nd} (hp : Par ns ns.length) {k j : Nat} (hk : k ≤ ns.length) (hj : j ≤ ns.length) {g : Gst} {o t : Int} (hs : g.settled = ns.take k) (hpre : g.pre = ns.take j) (hg : g.opn = opnL ns o) (h0 : -1 ≤ o) (h1 : o < k) (h2 : o < j) (ht : t = -1 ∨ t ∈ chainL ns o) (hel : ∀ x ∈ chainL ns o, nameL (nd ns x.toNat).name = true) (hne : o ≠ t) (r : List UInt8) :
    runF false (closeW ns o t ++ r) g = runF false r ⟨ns.take k, opnL ns t, []⟩ := by
  have ho : 0 ≤ o := by
    by_cases hi : o < 0
    · obtain rfl : o = -1 := by omega
      rcases ht with rfl | ht
      · exact absurd rfl hne
      · rw [chainL_neg] at ht; cases ht
    · omega
  have hc := chainL_step hp ho (by omega : o < (ns.length : Int))
  have hpo := hp.at ho (by omega : o < (ns.length : Int))
  rw [closeW_step hp ho (by omega) hne, List.append_assoc]
  rw [close_one hp ho (by omega) hg (by rw [hpre]; exact take_name (by omega) hj) (hel o (by rw [hc]; exact List.mem_cons_self ..)) false, hs]
  refine close_all hp hk (parAt ns o + 1).toNat _ t (by omega) (by omega) (by omega) ?_ (fun x hx => hel x (by rw [hc]; exact List.mem_cons_of_mem _ hx)) r
  rcases ht with ht | ht
  · exact .inl ht
  · rw [hc] at ht
    rcases List.mem_cons.1 ht with ht | ht
    · exact absurd ht.symm hne
    · exact .inr ht
/-- the tree under way behind so many nodes -/
def gst (ns : List Nd) : Nat → Gst
  | 0 => Gst.none
  | i + 1 => if textB (nd ns i) then ⟨ns.take i, opnL ns (parAt ns i), (nd ns i).text⟩ else ⟨ns.take (i + 1), opnL ns (openW ns i), []⟩
theorem gst_text {ns : List Nd} {i : Nat} (h : textB (nd ns i) = true) : gst ns (i + 1) = ⟨ns.take i, opnL ns (parAt ns i), (nd ns i).text⟩ := if_pos h
theorem gst_elem {ns : List Nd} {i : Nat} (h : textB (nd ns i) = false) : gst ns (i + 1) = ⟨ns.take (i + 1), opnL ns (openW ns i), []⟩ := if_neg (by rw [h]; decide)
theorem openW_text {ns : List Nd} {i : Nat} (h : textB (nd ns i) = true) : openW ns i = parAt ns i := by unfold openW; rw [if_pos h]
theorem take_on {ns : List Nd} {i : Nat} (hi : i < ns.length) : ns.take (i + 1) = ns.take i ++ [nd ns i] := by
  rw [List.take_succ_eq_append_getElem hi, nd_eq ns i hi]
theorem gst_settled {ns : List Nd} (h : rightTo ns ns.length = true) {i : Nat} (hi : i < ns.length) : (gst ns (i + 1)).settled = ns.take (i + 1) := by
  have hp := right_par h
  cases ht : textB (nd ns i) with
  | false => rw [gst_elem ht]; rfl
  | true =>
    obtain ⟨t1, t2, t3, t4⟩ := text_in h hi ht
    have hb := hp i hi
    rw [gst_text ht]
    unfold Gst.settled
    rw [if_neg t2, take_on hi]
    congr 1
    simp only []
    rw [innerL_opn hp hb.1 (by omega)]
    show _ = [(⟨(nd ns i).parent, (nd ns i).name, (nd ns i).text, (nd ns i).attrs⟩ : Nd)]
    rw [t1, t4]
    show [(⟨(nd ns ((i : Int)).toNat).parent, _, _, _⟩ : Nd)] = _
    rw [Int.toNat_natCast]
theorem gst_opn {ns : List Nd} (i : Nat) : (gst ns (i + 1)).opn = opnL ns (openTo ns (i + 1)) := by
  cases ht : textB (nd ns i) with
  | false => rw [gst_elem ht]; rfl
  | true => rw [gst_text ht]; show opnL ns (parAt ns i) = opnL ns (openW ns i); rw [openW_text ht]
theorem node_step {ns : List Nd} (h : rightTo ns ns.length = true) (hfew : ns.length ≤ 2000) {i : Nat} (hi : i < ns.length) {g : Gst} (ho : g.opn = opnL ns (parAt ns i)) (hs : g.settled = ns.take i) (hx : textB (nd ns i) = true → g.run = []) (f : Bool) (r : List UInt8) (hst : textB (nd ns i) = true → Stop r) :
    runF f (nodeW ns i ++ r) g = runF false r (gst ns (i + 1)) := by
  have hp := right_par h
  have hb := hp i hi
  have hlen : g.mem.length = i := by rw [← g.len, hs, List.length_take]; omega
  have hne : 0 < i → g.opn ≠ [] := fun h0 => by
    obtain ⟨k, rfl⟩ : ∃ k, i = k + 1 := ⟨i - 1, by omega⟩
    have h1 := stand_in (i := k) (right_le h (by omega))
    have hbk := innerN_bound (Par.le hp (by omega : k + 1 ≤ ns.length))
    have h2 := chain_le hp hbk.1 (by omega) h1
    rw [ho, opnL_step hp h2.1 (by omega)]
    simp
  cases ht : textB (nd ns i) with
  | false =>
    obtain ⟨t1, t2, t3⟩ := elem_in h hi ht
    have hw : nodeW ns i ++ r = 60 :: ((nd ns i).name ++ (attrsW (nd ns i).attrs ++ (tailE (!kidsB ns i) ++ r))) := by
      unfold nodeW headW tailE
      rw [ht]
      cases kidsB ns i <;> simp
    rw [hw]
    refine runF_step (by simp) (tok_open t1 t2 (!kidsB ns i) f r) ?_
    show openG g ⟨1, (nd ns i).name, [], (nd ns i).attrs, !kidsB ns i⟩ = _
    unfold openG
    have hd : g.opn.length < 20 := by
      have hn := rightTo_at h hi
      unfold nodeB at hn
      rw [Bool.and_eq_true] at hn
      have hm := hn.2
      rw [ho, opnL_len]
      cases i with
      | zero =>
        have := (first_in (right_le h (by omega))).1
        rw [this, chainL_neg]; decide
      | succ k =>
        rw [eq_succ, ht, Bool.and_eq_true] at hm
        simp only [Bool.false_eq_true, if_false, decide_eq_true_eq] at hm
        have hc := chainL_step hp (i := ((k + 1 : Nat) : Int)) (by omega) (by omega)
        rw [hc, List.length_cons] at hm
        omega
    rw [if_neg (name_ne t1), if_neg (fun e => by
      rcases Nat.eq_zero_or_pos i with e0 | e0
      · rw [hlen] at e; omega
      · exact hne e0 e.1), if_neg (by omega), if_neg (by rw [hlen]; omega), gst_elem ht]
    have hnode : ns.take i ++ [(⟨innerL g.opn, (nd ns i).name, [], (nd ns i).attrs⟩ : Nd)] = ns.take (i + 1) := by
      rw [take_on hi, ho, innerL_opn hp hb.1 (by omega)]
      congr 1
      show _ = [(⟨(nd ns i).parent, (nd ns i).name, (nd ns i).text, (nd ns i).attrs⟩ : Nd)]
      rw [t3]
      show [(⟨(nd ns ((i : Int)).toNat).parent, _, _, _⟩ : Nd)] = _
      rw [Int.toNat_natCast]
    have hopn : (if (!kidsB ns i) = true then g.opn else g.opn ++ [g.mem.length]) = opnL ns (openW ns i) := by
      unfold openW
      rw [ht, hlen, ho]
      cases hk : kidsB ns i with
      | false => simp
      | true =>
        simp only [Bool.not_true, Bool.false_eq_true, if_false, if_true]
        rw [opnL_step hp (i := (i : Int)) (by omega) (by omega), Int.toNat_natCast]
    simp only [hs]
    rw [hnode, hopn]
  | true =>
    obtain ⟨t1, t2, t3, t4⟩ := text_in h hi ht
    have h0 : 0 < i := by
      rcases Nat.eq_zero_or_pos i with e0 | e0
      · exfalso
        subst e0
        have := (first_in (right_le h (by omega))).2
        rw [this] at ht; cases ht
      · exact e0
    have hw : nodeW ns i = escL (nd ns i).text := by unfold nodeW; rw [if_pos ht]
    rw [hw]
    obtain ⟨c, e, he⟩ := esc_ne t2
    refine runF_step (by rw [he]; simp) (tok_text f t2 (hst ht)) ?_
    show textG g (nd ns i).text = _
    unfold textG
    have hrun := hx ht
    have hpre : g.pre = ns.take i := by unfold Gst.settled at hs; rw [if_pos hrun] at hs; exact hs
    rw [if_neg (hne h0), if_neg t2, if_pos hrun, if_neg (by rw [hlen]; omega), gst_text ht, hpre, ho]
/-- what is open behind a node was open within it -/
theorem open_sub {ns : List Nd} (hp : Par ns ns.length) {k : Nat} (hk : k < ns.length) : ∀ x ∈ chainL ns (openTo ns (k + 1)), x ∈ chainL ns (innerN ns k) := by
  intro x hx
  have hx' : x ∈ chainL ns (openW ns k) := hx
  unfold openW at hx'
  unfold innerN
  split at hx'
  · rename_i ht; rw [if_pos ht]; exact hx'
  · rename_i ht
    rw [if_neg ht]
    split at hx'
    · exact hx'
    · rw [chainL_step hp (by omega) (by omega)]
      exact List.mem_cons_of_mem _ hx'
theorem open_names {ns : List Nd} (h : rightTo ns ns.length = true) {k : Nat} (hk : k < ns.length) : ∀ x ∈ chainL ns (openTo ns (k + 1)), nameL (nd ns x.toNat).name = true := by
  intro x hx
  have hp := right_par h
  have h1 := open_sub hp hk x hx
  have h2 := open_elem k (right_le h (by omega)) x h1
  have hb := innerN_bound (Par.le hp (by omega : k + 1 ≤ ns.length))
  have h3 := chain_le hp hb.1 (by omega) h1
  exact (elem_in h (by omega) h2).1
/-- the next one's parent is open -/
theorem next_up {ns : List Nd} (h : rightTo ns ns.length = true) {k : Nat} (hk : k + 1 < ns.length) : parAt ns (k + 1 : Nat) ∈ chainL ns (openTo ns (k + 1)) := by
  have hp := right_par h
  have hm := stand_in (i := k) (right_le h (by omega))
  show parAt ns ((k + 1 : Nat) : Int) ∈ chainL ns (openW ns k)
  unfold innerN at hm
  unfold openW
  by_cases ht : textB (nd ns k) = true
  · rw [if_pos ht] at hm ⊢
    exact hm
  · rw [if_neg ht] at hm ⊢
    by_cases hkb : kidsB ns k = true
    · rw [if_pos hkb]; exact hm
    · rw [if_neg hkb]
      rw [chainL_step hp (by omega) (by omega), List.mem_cons] at hm
      rcases hm with hm | hm
      · exfalso
        apply hkb
        unfold kidsB
        rw [decide_eq_true hk, decide_eq_true hm]; rfl
      · exact hm
/-- no text beside a text -/
theorem apart {ns : List Nd} (h : rightTo ns ns.length = true) {k : Nat} (hk : k + 1 < ns.length) (h1 : textB (nd ns k) = true) (h2 : textB (nd ns (k + 1)) = true) : parAt ns k ≠ parAt ns (k + 1 : Nat) := by
  have hn := rightTo_at h hk
  unfold nodeB at hn
  rw [Bool.and_eq_true, eq_succ, h2, Bool.and_eq_true, if_pos rfl, h1] at hn
  have := hn.2.2
  simp only [Bool.not_true, Bool.false_or, decide_eq_true_eq] at this
  exact this
theorem close_stop {ns : List Nd} (hp : Par ns ns.length) {o t : Int} (h0 : 0 ≤ o) (h1 : o < ns.length) (hne : o ≠ t) (r : List UInt8) : Stop (closeW ns o t ++ r) := by
  rw [closeW_step hp h0 h1 hne, List.append_assoc, end_form]
  exact .inr ⟨_, rfl⟩
theorem pre_of {ns : List Nd} (i : Nat) : ∃ j, j ≤ i + 1 ∧ (gst ns (i + 1)).pre = ns.take j ∧ i ≤ j ∧ (textB (nd ns i) = false → j = i + 1) := by
  cases ht : textB (nd ns i) with
  | false => exact ⟨i + 1, by omega, by rw [gst_elem ht], by omega, fun _ => rfl⟩
  | true => exact ⟨i, by omega, by rw [gst_text ht], by omega, fun e => by cases e⟩
/-- the ends behind a node -/
theorem ends_run {ns : List Nd} (h : rightTo ns ns.length = true) {i : Nat} (hi : i < ns.length) {t : Int} (ht : t = -1 ∨ t ∈ chainL ns (openTo ns (i + 1))) (hne : openTo ns (i + 1) ≠ t) (r : List UInt8) :
    runF false (closeW ns (openTo ns (i + 1)) t ++ r) (gst ns (i + 1)) = runF false r ⟨ns.take (i + 1), opnL ns t, []⟩ := by
  have hp := right_par h
  have hb := openTo_bound hp (i := i + 1) (by omega)
  obtain ⟨j, j1, j2, j3, j4⟩ := pre_of (ns := ns) i
  refine close_from hp (k := i + 1) (j := j) (by omega) (by omega) (gst_settled h hi) j2 (gst_opn i) hb.1 hb.2 ?_ ht (open_names h hi) hne r
  cases hx : textB (nd ns i) with
  | false => have := j4 hx; omega
  | true =>
    have hpi := hp i hi
    have : openTo ns (i + 1) = parAt ns i := openW_text hx
    omega
theorem out_run {ns : List Nd} (h : rightTo ns ns.length = true) (hfew : ns.length ≤ 2000) : ∀ (i : Nat), i < ns.length → ∀ r, (textB (nd ns i) = true → Stop r) → runF true (outTo ns (i + 1) ++ r) Gst.none = runF false r (gst ns (i + 1))
  | 0, hi, r, hst => by
    have hf := first_in (right_le h (by omega : 1 ≤ ns.length))
    have e : outTo ns 1 = nodeW ns 0 := by
      show [] ++ closeW ns (-1) (parAt ns (0 : Nat)) ++ nodeW ns 0 = _
      rw [hf.1, closeW_same]; rfl
    rw [e]
    exact node_step h hfew hi (g := Gst.none) (by rw [hf.1]; rfl) rfl (fun _ => rfl) true r hst
  | i + 1, hi, r, hst => by
    have hp := right_par h
    have hb := openTo_bound hp (i := i + 1) (by omega)
    have hup := next_up h hi
    have e : outTo ns (i + 1 + 1) ++ r = outTo ns (i + 1) ++ (closeW ns (openTo ns (i + 1)) (parAt ns (i + 1 : Nat)) ++ (nodeW ns (i + 1) ++ r)) := by
      show outTo ns (i + 1) ++ closeW ns (openTo ns (i + 1)) (parAt ns (i + 1 : Nat)) ++ nodeW ns (i + 1) ++ r = _
      simp only [List.append_assoc]
    rw [e]
    by_cases heq : openTo ns (i + 1) = parAt ns (i + 1 : Nat)
    · have hcl : closeW ns (openTo ns (i + 1)) (parAt ns (i + 1 : Nat)) = [] := by rw [heq]; exact closeW_same ..
      rw [hcl, List.nil_append]
      have hel : textB (nd ns i) = true → textB (nd ns (i + 1)) = false := fun hx => by
        cases hy : textB (nd ns (i + 1)) with
        | false => rfl
        | true =>
          exfalso
          have h2 : openTo ns (i + 1) = parAt ns i := openW_text hx
          exact apart h hi hx hy (h2.symm.trans heq)
      rw [out_run h hfew i (by omega) _ (fun hx => by
        have hy := hel hx
        refine .inr ⟨((nd ns (i + 1)).name ++ attrsW (nd ns (i + 1)).attrs) ++ (if kidsB ns (i + 1) then [62] else [47, 62]) ++ r, ?_⟩
        unfold nodeW headW
        rw [hy]
        simp)]
      refine node_step h hfew hi ((gst_opn i).trans (by rw [heq])) (gst_settled h (by omega)) (fun hy => ?_) false r hst
      cases hx : textB (nd ns i) with
      | true => rw [hel hx] at hy; cases hy
      | false => rw [gst_elem hx]
    · rw [out_run h hfew i (by omega) _ (fun hx => ?_)]
      · rw [ends_run h (by omega) (.inr hup) heq]
        exact node_step h hfew hi (g := ⟨ns.take (i + 1), opnL ns (parAt ns (i + 1 : Nat)), []⟩) rfl rfl (fun _ => rfl) false r hst
      · have hc := chain_le hp hb.1 (by omega) hup
        exact close_stop hp (by omega) (by omega) heq _
theorem write_run {ns : List Nd} (h : rightB ns = true) : runF true (writeL ns) Gst.none = some (.ok ns) := by
  unfold rightB at h
  rw [Bool.and_eq_true, Bool.and_eq_true, decide_eq_true_iff, decide_eq_true_iff] at h
  obtain ⟨h1, h2, h⟩ := h
  have hp := right_par h
  obtain ⟨n, hn⟩ : ∃ n, ns.length = n + 1 := ⟨ns.length - 1, by have := List.length_pos_iff.2 h1; omega⟩
  have hb := openTo_bound hp (i := n + 1) (by omega)
  have hall : ns.take (n + 1) = ns := by rw [← hn, List.take_length]
  have fin : ∀ g : Gst, g.run = [] → g.pre = ns → g.opn = [] → runF false [] g = some (.ok ns) := fun g g1 g2 g3 => by
    unfold runF
    rw [splitM_nil]
    show some (endG g) = _
    have hm : g.mem = ns := by unfold Gst.mem; rw [if_pos g1, g2]
    unfold endG
    rw [hm, if_neg (by rw [g3]; simp [h1])]
  have e : writeL ns = outTo ns (n + 1) ++ (closeW ns (openTo ns (n + 1)) (-1) ++ []) := by
    unfold writeL
    rw [hn, List.append_nil]
  rw [e]
  have htext : textB (nd ns n) = true → 0 ≤ openTo ns (n + 1) := fun hx => by
    have h3 : openTo ns (n + 1) = parAt ns n := openW_text hx
    rcases Nat.eq_zero_or_pos n with e0 | e0
    · exfalso
      subst e0
      have := (first_in (right_le h (by omega))).2
      rw [this] at hx; cases hx
    · obtain ⟨k, rfl⟩ : ∃ k, n = k + 1 := ⟨n - 1, by omega⟩
      have h4 := next_up h (k := k) (by omega)
      have h5 := openTo_bound hp (i := k + 1) (by omega)
      have := chain_le hp h5.1 (by omega) h4
      omega
  rw [out_run h h2 n (by omega) _ (fun hx => close_stop hp (htext hx) (by omega) (by have := htext hx; omega) _)]
  by_cases ho : openTo ns (n + 1) = -1
  · have hx : textB (nd ns n) = false := by
      cases hx : textB (nd ns n) with
      | false => rfl
      | true => have := htext hx; omega
    rw [ho, closeW_same, List.nil_append]
    have h3 : openW ns n = -1 := ho
    refine fin _ ?_ ?_ ?_
    · rw [gst_elem hx]
    · rw [gst_elem hx]; exact hall
    · rw [gst_elem hx, h3]; rfl
  · rw [ends_run h (by omega) (.inl rfl) ho]
    exact fin _ rfl hall rfl
theorem all_cat {a b : List UInt8} (ha : allL a = true) (hb : allL b = true) : allL (a ++ b) = true := allL_app ha hb
theorem attrs_all : ∀ (l acc : List (List UInt8 × List UInt8)), attrsB (acc ++ l) = true → allL (attrsW l) = true
  | [], acc, _ => rfl
  | a :: l, acc, h => by
    obtain ⟨h1, h2, h3⟩ := attrs_at h
    have ih := attrs_all l (acc ++ [a]) (by simpa using h)
    unfold attrsW at ih ⊢
    rw [List.flatMap_cons]
    unfold attrW
    exact all_cat (all_cat (all_cat (all_cat (all_cat rfl (name_all h2)) rfl) (esc_all h3)) rfl) ih
theorem node_all {ns : List Nd} (h : rightTo ns ns.length = true) {i : Nat} (hi : i < ns.length) : allL (nodeW ns i) = true := by
  unfold nodeW
  split
  · rename_i ht
    exact esc_all (text_in h hi ht).2.2.1
  · rename_i ht
    obtain ⟨t1, t2, _⟩ := elem_in h hi (by simpa using ht)
    refine all_cat (all_cat (all_cat rfl (name_all t1)) (attrs_all _ [] (by simpa using t2))) ?_
    split <;> rfl
theorem closeU_all {ns : List Nd} (hp : Par ns ns.length) (t : Int) : ∀ (f : Nat) (o : Int), -1 ≤ o → o < ns.length → (∀ x ∈ chainL ns o, nameL (nd ns x.toNat).name = true) → allL (closeU ns t f o) = true
  | 0, o, _, _, _ => rfl
  | f + 1, o, h0, h1, hel => by
    rw [closeU]
    split
    · rfl
    · rename_i hx
      have ho : 0 ≤ o := by omega
      have hc := chainL_step hp ho h1
      have hpo := hp.at ho h1
      refine all_cat ?_ (closeU_all hp t f _ (by omega) (by omega) (fun x hx => hel x (by rw [hc]; exact List.mem_cons_of_mem _ hx)))
      unfold endL
      exact all_cat (all_cat rfl (name_all (hel o (by rw [hc]; exact List.mem_cons_self ..)))) rfl
theorem out_all {ns : List Nd} (h : rightTo ns ns.length = true) : ∀ (i : Nat), i ≤ ns.length → allL (outTo ns i) = true ∧ ∀ t, allL (closeW ns (openTo ns i) t) = true
  | 0, _ => ⟨rfl, fun t => rfl⟩
  | i + 1, hi => by
    have hp := right_par h
    have hb := openTo_bound hp (i := i + 1) hi
    obtain ⟨h1, h2⟩ := out_all h i (by omega)
    exact ⟨all_cat (all_cat h1 (h2 _)) (node_all h (by omega)), fun t => closeU_all hp t _ _ hb.1 (by omega) (open_names h (by omega))⟩
theorem write_all {ns : List Nd} (h : rightB ns = true) : allL (writeL ns) = true := by
  unfold rightB at h
  rw [Bool.and_eq_true, Bool.and_eq_true] at h
  obtain ⟨h1, h2⟩ := out_all h.2.2 ns.length (Nat.le_refl _)
  exact all_cat h1 (h2 _)
/-- what is written is parsed as it was -/
theorem parse_write {ns : List Nd} (h : rightB ns = true) (hl : (writeL ns).length ≤ 20000) : parseX (writeL ns) = .ok ns := by
  have hr := write_run h
  have ha := write_all h
  unfold runF at hr
  cases hs : splitM true (writeL ns) with
  | none => rw [hs] at hr; cases hr
  | some ts =>
    rw [hs] at hr
    injection hr with hr
    have h1 := splitE_some (by omega) ha (splitL_M (writeL ns) ▸ hs)
    have h2 := splitT_some (by omega) ha (splitL_M (writeL ns) ▸ hs)
    unfold parseX
    rw [if_pos h1, h2]
    exact hr
end Nwl.Bk
