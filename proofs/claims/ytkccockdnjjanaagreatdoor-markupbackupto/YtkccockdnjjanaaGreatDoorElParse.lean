/-
  The contract of Parse (layer 3).
-/
import Derived.Test.YtkccockdnjjanaaGreatDoorElTree
namespace Nwl
open Go
theorem encode_le4 (v : Int) : (Lib.encodeRune v).length ≤ 4 := by
  have := Lib.runeCells_le v
  rw [← Lib.byteCells_encodeRune, Lib.byteCells_length] at this
  exact this.2
theorem entF_len : ∀ (n : Nat) (l x : List UInt8), entF n l = some x → x.length ≤ 4 * l.length
  | n, [], x, h => by
    have : x = [] := by cases n <;> (simp only [entF, Option.some.injEq] at h; exact h.symm)
    subst this; simp
  | 0, _ :: _, x, h => by cases h
  | n + 1, c :: r, x, h => by
    simp only [entF] at h
    split at h
    · split at h
      · cases h
      · rename_i b rest hc
        have h1 := cutL_le hc
        split at h
        · cases h
        · rename_i v hv
          cases he : entF n rest with
          | none => rw [he] at h; cases h
          | some y =>
            rw [he] at h
            simp only [Option.map_some, Option.some.injEq] at h
            subst h
            have h2 := entF_len n rest y he
            have h3 := encode_le4 v
            simp only [List.length_append, List.length_cons]
            omega
    · cases he : entF n r with
      | none => rw [he] at h; cases h
      | some y =>
        rw [he] at h
        simp only [Option.map_some, Option.some.injEq] at h
        subst h
        have h2 := entF_len n r y he
        simp only [List.length_cons]
        omega
theorem attrsF_len : ∀ (n : Nat) (acc : List (List UInt8 × List UInt8)) (l : List UInt8) (a : List (List UInt8 × List UInt8)) (e : Bool) (rest : List UInt8), attrsF n acc l = some (a, e, rest) → a.length ≤ acc.length + l.length
  | 0, _, _, _, _, _, h => by cases h
  | n + 1, acc, l, a, e, rest, h => by
    simp only [attrsF] at h
    have h2 := skipL_le l
    split at h
    · simp only [Option.some.injEq, Prod.mk.injEq] at h
      rw [← h.1]; omega
    · split at h
      · simp only [Option.some.injEq, Prod.mk.injEq] at h
        rw [← h.1]; omega
      · split at h
        · cases h
        · cases ha : attrL (skipL l) with
          | none => rw [ha] at h; cases h
          | some x =>
            obtain ⟨b, rs⟩ := x
            rw [ha] at h
            simp only [] at h
            have h1 := attrL_lt ha
            split at h
            · cases h
            · have := attrsF_len n _ rs _ _ _ h
              simp only [List.length_append, List.length_singleton] at this
              omega
theorem cutL_two {sep l a b : List UInt8} (h : cutL sep l = some (a, b)) : a.length + b.length ≤ l.length := by
  unfold cutL at h
  split at h
  · simp only [Option.some.injEq, Prod.mk.injEq] at h
    obtain ⟨rfl, rfl⟩ := h
    rw [List.length_take, List.length_drop]
    omega
  · cases h
theorem tokL_len {first : Bool} {l rest : List UInt8} {t : Tok} (h : tokL first l = some (t, rest)) : t.text.length + 4 * rest.length ≤ 4 * l.length ∧ t.attrs.length ≤ l.length := by
  have hcut : ∀ {sep : List UInt8} (k f : Nat), (cutL sep (l.drop k)).map (fun (x, rest) => ((⟨f, [], x, [], false⟩ : Tok), rest)) = some (t, rest) → t.text.length + 4 * rest.length ≤ 4 * l.length ∧ t.attrs.length ≤ l.length := by
    intro sep k f h
    cases hc : cutL sep (l.drop k) with
    | none => rw [hc] at h; cases h
    | some x =>
      obtain ⟨a, b⟩ := x
      rw [hc] at h
      simp only [Option.map_some, Option.some.injEq, Prod.mk.injEq] at h
      have := cutL_two hc
      rw [List.length_drop] at this
      obtain ⟨rfl, rfl⟩ := h
      simp only [List.length_nil]
      omega
  unfold tokL at h
  split at h
  · unfold commentL at h
    cases hc : cutL [45, 45, 62] (l.drop 4) with
    | none => rw [hc] at h; cases h
    | some x =>
      obtain ⟨a, b⟩ := x
      rw [hc] at h
      simp only [] at h
      have := cutL_two hc
      rw [List.length_drop] at this
      split at h
      · cases h
      · simp only [Option.some.injEq, Prod.mk.injEq] at h
        obtain ⟨rfl, rfl⟩ := h
        simp only [List.length_nil]
        omega
  · split at h
    · exact hcut 9 3 h
    · split at h
      · split at h
        · exact hcut 2 5 h
        · cases h
      · split at h
        · have h1 := closeL_lt h
          unfold closeL at h
          split at h
          · cases h
          · split at h
            · simp only [Option.some.injEq, Prod.mk.injEq] at h
              rw [List.length_drop] at h1
              obtain ⟨rfl, _⟩ := h
              simp only [List.length_nil]
              omega
            · cases h
        · split at h
          · have h1 := openL_lt h
            rw [List.length_drop] at h1
            unfold openL at h
            split at h
            · cases h
            · have h2 := nameP_le (l.drop 1)
              rw [List.length_drop] at h2
              cases ha : attrsF ((nameP (l.drop 1)).2.length + 1) [] (nameP (l.drop 1)).2 with
              | none => rw [ha] at h; cases h
              | some x =>
                obtain ⟨a, e, rs⟩ := x
                rw [ha] at h
                simp only [Option.map_some, Option.some.injEq, Prod.mk.injEq] at h
                have h3 := attrsF_len _ _ _ _ _ _ ha
                obtain ⟨rfl, rfl⟩ := h
                simp only [List.length_nil] at h3 ⊢
                omega
          · unfold textL at h
            cases he : entL (l.takeWhile (· != 60)) with
            | none => rw [he] at h; cases h
            | some x =>
              rw [he] at h
              simp only [Option.map_some, Option.some.injEq, Prod.mk.injEq] at h
              have h3 := entF_len _ _ _ he
              have h4 : (l.takeWhile (· != 60)).length + (l.dropWhile (· != 60)).length = l.length := by
                rw [← List.length_append, List.takeWhile_append_dropWhile]
              obtain ⟨rfl, rfl⟩ := h
              simp only [List.length_nil]
              omega
theorem splitF_len : ∀ (n : Nat) (first : Bool) (l : List UInt8) (ts : List Tok), splitF n first l = some ts → ts.length ≤ n ∧ textsL (ts.map Tok.up) ≤ 4 * l.length ∧ ∀ t ∈ ts.map Tok.up, t.attrs.length ≤ l.length
  | n, _, [], ts, h => by
    have : ts = [] := by cases n <;> (simp only [splitF, Option.some.injEq] at h; exact h.symm)
    subst this; simp [textsL]
  | 0, _, _ :: _, ts, h => by cases h
  | n + 1, first, c :: r, ts, h => by
    simp only [splitF] at h
    cases ht : tokL first (c :: r) with
    | none => rw [ht] at h; cases h
    | some x =>
      obtain ⟨t, rest⟩ := x
      rw [ht] at h
      simp only [] at h
      cases hs : splitF n false rest with
      | none => rw [hs] at h; cases h
      | some us =>
        rw [hs] at h
        simp only [Option.map_some, Option.some.injEq] at h
        subst h
        obtain ⟨h1, h2⟩ := tokL_len ht
        obtain ⟨h3, h4, h5⟩ := splitF_len n false rest us hs
        have h6 := tokL_lt ht (by simp)
        refine ⟨by simp; omega, ?_, ?_⟩
        · unfold textsL at h4 ⊢
          simp only [List.map_cons, List.sum_cons]
          have : (Tok.up t).text.length = t.text.length := rfl
          omega
        · intro u hu
          rw [List.map_cons, List.mem_cons] at hu
          rcases hu with rfl | hu
          · exact h2
          · have := h5 u hu
            omega
/-- the tree of a text, or why there is none -/
def parseX (l : List UInt8) : Except Int (List Nd) := if splitE l = 0 then treeL ((splitT l).map Tok.up) else .error (splitE l)
theorem splitT_len (l : List UInt8) : (splitT l).length ≤ 20000 ∧ textsL ((splitT l).map Tok.up) ≤ 80000 ∧ ∀ t ∈ (splitT l).map Tok.up, t.attrs.length ≤ 20000 := by
  unfold splitT
  split
  · simp [textsL]
  · rename_i hl
    split
    · cases hs : splitL l with
      | none => simp [textsL]
      | some ts =>
        simp only [Option.getD_some]
        obtain ⟨h1, h2, h3⟩ := splitF_len _ _ _ _ hs
        exact ⟨by omega, by omega, fun t ht => by have := h3 t ht; omega⟩
    · simp [textsL]
end Nwl
namespace Go.Proofs.YtkccockdnjjanaaGreatDoor
open Nwl
open Go.RowKit Go.Maps
set_option linter.unusedVariables false

theorem NodesAt.mono {B B' : Nat} {w : World} {v : Value} {ns : List Nd} (h : NodesAt B w v ns) (hB : B' ≤ B) : NodesAt B' w v ns := by
  have hn : ∀ {ns : List Nd} {cs : List Value}, NdCells w B ns cs → NdCells w B' ns cs := by
    intro ns
    induction ns with
    | nil => intro cs h; exact h
    | cons n ns ih =>
      rintro cs ⟨A, l, c, tl, e, h1, h2⟩
      exact ⟨A, l, c, tl, e, row_mono h1 hB, ih h2⟩
  obtain ⟨cs, h1, h2⟩ := h
  exact ⟨cs, row_mono h1 hB, hn h2⟩

set_option maxRecDepth 100000 in
set_option maxHeartbeats 1000000 in
theorem Parse_c (s : ByteArray) (w : World) (hs : s.size ≤ maxLen) (hg : Glob w) :
    Calls Tryz.prog 9 #[.string s] w (TreePost w.heap.size (parseX (bs s)) w) := by
  have HG := Lib.hid hg
  clear hg
  go_enter Tryz.func9, Tryz.ntmps9
  go_wp2_with fail
  refine (Split_c s w hs HG.out).mono ?_
  rintro e w1 ⟨A, c, rfl, ht, hb⟩
  have HB := Lib.hid hb
  have HR := Lib.hid (ToksR.of ht)
  clear ht hb
  obtain ⟨h1, h2, h3⟩ := splitT_len (bs s)
  have H2 := Lib.hid h2
  have H3 := Lib.hid h3
  clear h2 h3
  by_cases he : splitE (bs s) = 0
  · have HX : Hid (parseX (bs s) = treeL ((splitT (bs s)).map Tok.up)) := Lib.hid (by unfold parseX; rw [if_pos he])
    have hel : ((splitT (bs s)).map Tok.up).length = (splitT (bs s)).length := by simp
    have HEL := Lib.hid hel
    clear hel
    go_wp2_with fail
    refine (Tree_c ((splitT (bs s)).map Tok.up) A (splitT (bs s)).length c _ HR.out HEL.out.symm (by omega) (fun t ht => by have := H3.out t ht; omega) (by have := H2.out; omega)).mono ?_
    rintro e w2 ⟨A2, c2, rfl, hn2, hb2⟩
    have HN2 := Lib.hid hn2
    clear hn2
    have hsz := HB.out.size
    go_wp2_with fail
    go_ret2
    unfold TreePost
    rw [HX.out]
    exact ⟨A2, c2, rfl, HN2.out.mono hsz, HB.out.trans (hb2.mono hsz)⟩
  · have HX : Hid (parseX (bs s) = .error (splitE (bs s))) := Lib.hid (by unfold parseX; rw [if_neg he])
    have hm0 : (splitE (bs s) == 0) = false := by rw [beq_eq_false_iff_ne]; exact he
    clear he
    go_wp2_with fail
    go_ret2
    exact treePost_err HX.out rfl HB.out
end Go.Proofs.YtkccockdnjjanaaGreatDoor
