/-
  newelhelp.Own and Kept over pieces; what a program that does nothing does not answer.
-/
import Derived.Test.YtlblhoeekcglpaaExHelp
import Derived.Test.YtlblhoeekcglpaaExSplit
namespace Nwl
theorem pkeep_get {l : List Pc} {f : Pc} {n j : Nat} (hn : n = l.length) (h1 : n ≤ j) (h2 : j < n + 3) : (l ++ [f, f, f])[j]'(by simp; omega) = f := by
  rw [List.getElem_append_right (by omega)]
  have : j - l.length = 0 ∨ j - l.length = 1 ∨ j - l.length = 2 := by omega
  rcases this with e | e | e <;> simp only [e] <;> rfl
end Nwl
namespace Go.Proofs.Ytlblhoeekcglpaa
open Nwl
open Go.RowKit Go.Maps
set_option linter.unusedVariables false
set_option linter.unusedSimpArgs false

theorem pmake_own (w : World) (n : Nat) (hn : n ≤ 100000) : (Instr.makeSlice 22 (.int .i64 0) (.int .i64 ((n : Int) + 3))).run Try.prog w = .ok (.slice (some ⟨w.heap.size, 0, none⟩) 0 (n + 3)) (w.alloc (.cells (madeCells #[.bool false, .string ⟨#[]⟩] ((n + 3) * 2)) 29)) := by
  obtain ⟨i, h1, h2, h3, h4⟩ := info_pcp info_pc
  have := run_make w 22 29 i _ Try.underlying22 h1 h2 .i64 .i64 0 ((n : Int) + 3) (by omega) (by omega) (by rw [h4]; omega) (by omega)
  have e : ((n : Int) + 3).toNat = n + 3 := by omega
  rw [h3, e] at this
  exact this
theorem pown_room (w : World) (n : Nat) (hn : n ≤ 100000) : PcO w.heap.size (w.alloc (.cells (madeCells #[.bool false, .string ⟨#[]⟩] ((n + 3) * 2)) 29)) (some ⟨w.heap.size, 0, none⟩) 0 (n + 3) [] :=
  ⟨rfl, rfl, .inr ⟨w.heap.size, n + 3, _, rfl, Nat.le_refl _, Blk.new w 29 _, Nat.zero_le _, by unfold maxLen; omega, size_madeCells _ _, rfl⟩⟩
set_option maxRecDepth 100000 in
theorem pown_app {w : World} {A : Option Addr} {n c : Nat} {l : List Pc} (h : PcR w.heap.size w A n l) (hA : A = none → n = 0 ∧ c = 0) (hn : n ≤ 100000) :
    ∃ W2, (Builtin.append_ #[22, 22] 22 #[.slice (some ⟨w.heap.size, 0, none⟩) 0 (n + 3), .slice A n c]).run Try.prog (w.alloc (.cells (madeCells #[.bool false, .string ⟨#[]⟩] ((n + 3) * 2)) 29)) = .ok (.slice (some ⟨w.heap.size, 0, none⟩) n (n + 3)) W2 ∧ PcO w.heap.size W2 (some ⟨w.heap.size, 0, none⟩) n (n + 3) l ∧ Below w.heap.size w W2 := by
  obtain ⟨i0, hi, hz0, hz1, hz2⟩ := info_pcp info_pc
  have ho := pown_room w n hn
  have hb : Below w.heap.size w (w.alloc (.cells (madeCells #[.bool false, .string ⟨#[]⟩] ((n + 3) * 2)) 29)) := (Below.refl _ _).alloc (Nat.le_refl _) _
  cases A with
  | none =>
    obtain ⟨rfl, rfl⟩ := hA rfl
    have hl : l = [] := List.eq_nil_of_length_eq_zero h.1.symm
    subst hl
    exact ⟨_, run_append_owned_none _ w.heap.size 22 22 29 i0 2 Try.underlying22 hi _ 0 _ ho.2, ho, hb⟩
  | some a =>
    have hr := h.on hb
    obtain ⟨W', hrun, hown, hg⟩ := run_append_fits (P := Try.prog) _ w.heap.size 22 22 29 i0 2 Try.underlying22 hi hz1 w.heap.size 0 (n + 3) _ ho.2 a n c (pcCells l) (by rw [pcCells_len, h.1]) hr.cells (pcCells_one l) (by omega)
    rw [Nat.zero_add] at hrun hown
    refine ⟨W', hrun, ⟨h.1, ?_⟩, hb.grown hg hb.size (fun k hk => by cases hk; exact Nat.le_refl _)⟩
    simpa [pcCells] using hown

/-- the room behind under way -/
def POwnAt (w w' : World) (n i : Nat) (l : List Pc) (f : Pc) : Prop := ∃ cs : Array Value, Blk w' (w.heap.size + 1) 29 cs ∧ cs.size = (n + 3) * 2 ∧ cs.toList.take (n * 2) = pcCells l ∧ (∀ j, n ≤ j → j < i → cs[j * 2]? = some (.bool f.nm) ∧ cs[j * 2 + 1]? = some (.string (tx f.t))) ∧ Blk w' w.heap.size 29 #[.bool f.nm, .string (tx f.t)] ∧ Below w.heap.size w w'

set_option maxRecDepth 100000 in
set_option maxHeartbeats 4000000 in
theorem POwn_c (A : Option Addr) (n c : Nat) (l : List Pc) (f : Pc) (w : World) (h : PcR w.heap.size w A n l) (hA : A = none → n = 0 ∧ c = 0) (hn : n ≤ 100000) :
    Calls Try.prog 10 #[.slice A n c, pcV f.nm f.t] w fun e w' => e = .returned (.slice (some ⟨w.heap.size + 1, 0, none⟩) n (n + 3)) ∧ Hid (PcR w'.heap.size w' (some ⟨w.heap.size + 1, 0, none⟩) (n + 3) (l ++ [f, f, f]) ∧ Below w.heap.size w w') := by
  obtain ⟨w0, hw0⟩ : ∃ w0, w.alloc (.cells #[.bool f.nm, .string (tx f.t)] 29) = w0 := ⟨_, rfl⟩
  have hX : PB w w0 (.bool f.nm) (.string (tx f.t)) := by rw [← hw0]; exact PB.new _ _ _
  have hsz : w0.heap.size = w.heap.size + 1 := by rw [← hw0]; simp
  have hmk := pmake_own w0 n hn
  obtain ⟨W2, hrun, ho, hb2⟩ := pown_app (h.on hX.2) hA hn
  rw [hsz] at hmk hrun ho
  have HRUN := Lib.hid hrun
  have HN : Hid (n = l.length) := Lib.hid h.1
  have H0 : Hid (POwnAt w W2 n n l f) := Lib.hid (by
    rcases ho.2.2 with ⟨hv, _⟩ | ⟨g, cap, cur, hv, hg, hh, hc, hm, hs, ht⟩
    · cases hv
    · injection hv with e1 e2 e3
      injection e1 with e1
      injection e1 with e1 _ _
      subst e1 e3
      exact ⟨cur, hh, hs, ht, fun j h1 h2 => by omega, hX.1.below hb2, hX.2.trans (hb2.mono hX.2.size)⟩)
  clear h hA hrun ho hb2 hX hsz
  go_enter Try.func10, Try.ntmps10
  go_wp2_with (at_builtin; go_must (refine wpl_app rfl _ _ _ rfl _ _ _ rfl rfl HRUN.out ?_))
  clear hmk hw0
  go_loopw [7] (fun iv wr => ∃ i : Nat, n ≤ i ∧ i ≤ n + 3 ∧ iv = .int .i64 i ∧ Hid (POwnAt w wr n i l f)) (fun iv _ => n + 3 - (intOf iv).toNat)
  case atStart => exact ⟨n, by omega, by omega, rfl, H0⟩
  case round =>
    obtain ⟨i, h1, h2, rfl, hh⟩ := hrel
    by_cases hlt : i < n + 3
    · obtain ⟨cs, q1, q2, q3, q4, q5, q6⟩ := hh.out
      have d1 : wr.cell? ⟨w.heap.size + 1, i * 2, none⟩ = some (cs[i * 2]'(by omega)) := by rw [q1.cell, Array.getElem?_eq_getElem (by omega)]
      have d2 : wr.cell? ⟨w.heap.size + 1, i * 2 + 1, none⟩ = some (cs[i * 2 + 1]'(by omega)) := by rw [q1.cell, Array.getElem?_eq_getElem (by omega)]
      have d3 := q1.frozen (i * 2)
      have d4 := q1.frozen (i * 2 + 1)
      have d5 := q5.cell 0
      have d6 := q5.cell 1
      have HN2 : Hid (POwnAt w ((wr.setCell ⟨w.heap.size + 1, i * 2, none⟩ (.bool f.nm)).setCell ⟨w.heap.size + 1, i * 2 + 1, none⟩ (.string (tx f.t))) n (i + 1) l f) := Lib.hid (by
        refine ⟨_, (q1.set (i * 2) _).set (i * 2 + 1) _, by simpa using q2, ?_, ?_, ?_, (q6.setCell (Nat.le_succ _) _).setCell (Nat.le_succ _) _⟩
        · rw [← q3, Array.toList_setIfInBounds, Array.toList_setIfInBounds, List.take_set_of_le (by omega), List.take_set_of_le (by omega)]
        · intro j hj1 hj2
          simp only [Array.getElem?_setIfInBounds]
          by_cases e : i = j
          · subst e
            constructor
            · rw [if_neg (by omega), if_pos rfl, if_pos (by omega)]
            · rw [if_pos rfl, if_pos (by simp; omega)]
          · have := q4 j hj1 (by omega)
            rw [if_neg (by omega), if_neg (by omega), if_neg (by omega), if_neg (by omega)]
            exact this
        · have hne : w.heap.size ≠ w.heap.size + 1 := by omega
          exact (Below.heap_setCell _ _ _ _ hne).trans ((Below.heap_setCell _ _ _ _ hne).trans q5))
      generalize cs[i * 2]'(by omega) = z0 at d1
      generalize cs[i * 2 + 1]'(by omega) = z1 at d2
      clear hh q1 q2 q3 q4 q5 q6
      go_wp2_with fail
      go_roundw
      case rel => exact ⟨i + 1, by omega, by omega, by go_num, HN2⟩
      case measure => simp [intOf]; omega
    · obtain rfl : i = n + 3 := by omega
      have HF : Hid (PcR wr.heap.size wr (some ⟨w.heap.size + 1, 0, none⟩) (n + 3) (l ++ [f, f, f]) ∧ Below w.heap.size w wr) := Lib.hid (by
        obtain ⟨cs, q1, q2, q3, q4, q5, q6⟩ := hh.out
        have hn := HN.out
        refine ⟨⟨by simp; omega, fun j hj => ⟨w.heap.size + 1, 0, rfl, q1.lt, ?_⟩⟩, q6⟩
        rw [q1.cell, q1.cell, Nat.zero_add]
        simp at hj
        by_cases e : j < n
        · obtain ⟨u1, u2⟩ := pcCells_get l j (by omega)
          rw [← q3, List.getElem?_take, if_pos (by omega), Array.getElem?_toList] at u1 u2
          rw [u1, u2, List.getElem_append_left (by omega)]
          exact ⟨rfl, rfl⟩
        · obtain ⟨u1, u2⟩ := q4 j (by omega) (by omega)
          rw [u1, u2, pkeep_get hn (by omega) (by omega)]
          exact ⟨rfl, rfl⟩)
      clear hh
      go_wp2_with fail
      go_ret
      exact ⟨rfl, HF⟩

set_option maxRecDepth 100000 in
set_option maxHeartbeats 4000000 in
theorem PKept_c (g : Nat) (A : Option Addr) (n c : Nat) (l : List Pc) (f : Pc) (w : World) (h : PcR w.heap.size w (some ⟨g, 0, none⟩) (n + 3) (l ++ [f, f, f])) (h2 : PcR w.heap.size w A n l) (hn : n ≤ 100000) :
    Calls Try.prog 16 #[.slice (some ⟨g, 0, none⟩) n (n + 3), .slice A n c, pcV f.nm f.t] w fun e w' => e = .returned (.bool true) ∧ Hid (Below w.heap.size w w') := by
  have hln := h2.1
  have HN := Lib.hid hln
  obtain ⟨w0, hw0⟩ : ∃ w0, w.alloc (.cells #[.bool f.nm, .string (tx f.t)] 29) = w0 := ⟨_, rfl⟩
  have hX : PB w w0 (.bool f.nm) (.string (tx f.t)) := by rw [← hw0]; exact PB.new _ _ _
  have HX := Lib.hid hX
  have H := Lib.hid (h.on hX.2)
  have H1 : Hid (PcR w0.heap.size w0 (some ⟨g, 0, none⟩) n l) := Lib.hid ⟨hln, fun j hj => by
    obtain ⟨g', o', e, hg, hc⟩ := (h.on hX.2).2 j (by simp; omega)
    rw [List.getElem_append_left (by omega)] at hc
    exact ⟨g', o', e, hg, hc⟩⟩
  have H2 := Lib.hid (h2.on hX.2)
  clear h h2 hln hX
  have htl := tlx
  go_enter Try.func16, Try.ntmps16
  go_wp2_with fail
  refine (PPlain_c (some ⟨g, 0, none⟩) A n n (n + 3) c l l _ H1.out H2.out (by omega) (by omega) true (by simp)).mono ?_
  rintro e w1 ⟨rfl, b1⟩
  have R1 := Lib.hid (H.out.on b1.out)
  have X1 := PB.step HX b1
  clear H H1 H2 HX hw0
  go_wp2_with fail
  go_loopw [8] (fun iv wr => ∃ i : Nat, n ≤ i ∧ i ≤ n + 3 ∧ iv = .int .i64 i ∧ Hid (PcR wr.heap.size wr (some ⟨g, 0, none⟩) (n + 3) (l ++ [f, f, f]) ∧ PB w wr (.bool f.nm) (.string (tx f.t)))) (fun iv _ => n + 3 - (intOf iv).toNat)
  case atStart => exact ⟨n, by omega, by omega, rfl, Lib.hid ⟨R1.out, X1.out⟩⟩
  case round =>
    clear R1 X1 b1
    obtain ⟨i, h1, h2, rfl, hh⟩ := hrel
    have RR := Lib.hid hh.out.1
    have XX := Lib.hid hh.out.2
    clear hh
    by_cases hlt : i < n + 3
    · obtain ⟨g', o', e, hg, hc, hc2⟩ := RR.out.2 i (by have := HN.out; simp; omega)
      injection e with e
      injection e with e1 e2 _
      subst e1 e2
      rw [pkeep_get HN.out h1 hlt, Nat.zero_add] at hc hc2
      obtain ⟨k0, k1⟩ := PB.rd XX
      have HFD : Hid (PcR wr.drew.heap.size wr.drew (some ⟨g, 0, none⟩) (n + 3) (l ++ [f, f, f]) ∧ PB w wr.drew (.bool f.nm) (.string (tx f.t))) := Lib.hid ⟨RR.out, XX.out.1, XX.out.2.drew⟩
      have hb1 : (f.nm != f.nm) = false := by simp
      go_wp2_with fail
      go_region
      all_goals (go_wp2_with fail; go_roundw)
      all_goals first | exact ⟨i + 1, by omega, by omega, by go_num, HFD⟩ | (simp [intOf]; omega)
    · obtain rfl : i = n + 3 := by omega
      go_wp2_with fail
      go_ret
      exact ⟨rfl, Lib.hid XX.out.2⟩
end Go.Proofs.Ytlblhoeekcglpaa
