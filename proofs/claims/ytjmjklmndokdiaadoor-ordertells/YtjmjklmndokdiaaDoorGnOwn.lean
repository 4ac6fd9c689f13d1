/-
  newelhelp.Own and Kept, over texts.
-/
import Derived.Test.YtjmjklmndokdiaaDoorGnStrO
import Derived.Test.YtjmjklmndokdiaaDoorGnStrs
import Derived.Laws.OwnMore
namespace Nwl
theorem keep_get {l : List (List UInt8)} {f : List UInt8} {n j : Nat} (hn : n = l.length) (h1 : n ≤ j) (h2 : j < n + 3) : (l ++ [f, f, f])[j]'(by simp; omega) = f := by
  rw [List.getElem_append_right (by omega)]
  have : j - l.length = 0 ∨ j - l.length = 1 ∨ j - l.length = 2 := by omega
  rcases this with e | e | e <;> simp only [e] <;> rfl
end Nwl
namespace Go.Proofs.YtjmjklmndokdiaaDoor
open Nwl
open Go.RowKit Go.Maps
set_option linter.unusedVariables false

theorem make_own (w : World) (n : Nat) (hn : n ≤ 1000000) : (Instr.makeSlice 23 (.int .i64 0) (.int .i64 ((n : Int) + 3))).run Tryd.prog w = .ok (.slice (some ⟨w.heap.size, 0, none⟩) 0 (n + 3)) (w.alloc (.cells (madeCells #[.string ⟨#[]⟩] (n + 3)) 9)) := by
  obtain ⟨i, h1, h2, h3, h4⟩ := info_parts2 info_st
  have := run_make w 23 9 i _ Tryd.underlying23 h1 h2 .i64 .i64 0 ((n : Int) + 3) (by omega) (by omega) (by rw [h4]; omega) (by omega)
  have e : ((n : Int) + 3).toNat = n + 3 := by omega
  rw [h3, Nat.mul_one, e] at this
  exact this
theorem own_room (w : World) (n : Nat) (hn : n ≤ 1000000) : StrO w.heap.size (w.alloc (.cells (madeCells #[.string ⟨#[]⟩] (n + 3)) 9)) (some ⟨w.heap.size, 0, none⟩) 0 (n + 3) [] :=
  ⟨rfl, rfl, .inr ⟨w.heap.size, n + 3, _, rfl, Nat.le_refl _, Blk.new w 9 _, Nat.zero_le _, by unfold maxLen; omega, by rw [Nat.mul_one]; exact size_madeCells _ _, rfl⟩⟩

set_option maxRecDepth 100000 in
theorem own_app {w : World} {A : Option Addr} {n c : Nat} {l : List (List UInt8)} (h : StrR w.heap.size w A n l) (hA : A = none → n = 0 ∧ c = 0) (hn : n ≤ 1000000) :
    ∃ W2, (Builtin.append_ #[23, 23] 23 #[.slice (some ⟨w.heap.size, 0, none⟩) 0 (n + 3), .slice A n c]).run Tryd.prog (w.alloc (.cells (madeCells #[.string ⟨#[]⟩] (n + 3)) 9)) = .ok (.slice (some ⟨w.heap.size, 0, none⟩) n (n + 3)) W2 ∧ StrO w.heap.size W2 (some ⟨w.heap.size, 0, none⟩) n (n + 3) l ∧ Below w.heap.size w W2 := by
  obtain ⟨i0, hi, hz0, hz1, hz2⟩ := info_parts2 info_st
  have ho := own_room w n hn
  have hb : Below w.heap.size w (w.alloc (.cells (madeCells #[.string ⟨#[]⟩] (n + 3)) 9)) := (Below.refl _ _).alloc (Nat.le_refl _) _
  cases A with
  | none =>
    obtain ⟨rfl, rfl⟩ := hA rfl
    have hl : l = [] := List.eq_nil_of_length_eq_zero h.1.symm
    subst hl
    exact ⟨_, run_append_owned_none _ w.heap.size 23 23 9 i0 1 Tryd.underlying23 hi _ 0 _ ho.2, ho, hb⟩
  | some a =>
    have hr := (h.below hb).mono hb.size
    obtain ⟨W', hrun, hown, hg⟩ := run_append_fits (P := Tryd.prog) _ w.heap.size 23 23 9 i0 1 Tryd.underlying23 hi hz1 w.heap.size 0 (n + 3) _ ho.2 a n c (l.map fun x => .string (tx x)) (by rw [List.length_map, Nat.mul_one]; exact h.1.symm) (str_cells hr) (str_one l) (by omega)
    rw [Nat.zero_add] at hrun hown
    refine ⟨W', hrun, ⟨h.1, ?_⟩, hb.grown hg hb.size (fun k hk => by cases hk; exact Nat.le_refl _)⟩
    simpa using hown

theorem wpl_app {P : Program} {w w' : World} {ops : Array Oper} {rest : List Oper} {o : Oper} {a : Act} {Q : Exit → Act → World → Prop} (hg : o.guard = none) (s x : Operand) (t : TypeId) (ho : o.op = .call { callee := .builtin .append, args := #[s, x], argTypes := #[t, t] })
    (v1 v2 v' : Value) (hs : a.eval s = v1) (hx : a.eval x = v2) (hr : (Builtin.append_ #[t, t] o.type #[v1, v2]).run P w = .ok v' w') (h : wpList P ops Q rest (a.put o.dst v') w') : wpList P ops Q (o :: rest) a w := by
  refine wpList_plain hg fun K hK => ?_
  unfold Oper.wp execOp
  simp only [ho, hs, hx, hr, resolve, invoke, builtin, List.map_toArray, List.map_cons, List.map_nil, Sem.run_bind, Sem.run_pure, Result.andThen_ok]
  exact hK _ _ h

/-- the room behind under way -/
def OwnAt (w w' : World) (n i : Nat) (l : List (List UInt8)) (f : List UInt8) : Prop := ∃ cs : Array Value, Blk w' w.heap.size 9 cs ∧ cs.size = n + 3 ∧ cs.toList.take n = l.map (fun x => .string (tx x)) ∧ (∀ j, n ≤ j → j < i → cs[j]? = some (.string (tx f))) ∧ Below w.heap.size w w'

set_option maxRecDepth 100000 in
set_option maxHeartbeats 4000000 in
theorem Own_c (A : Option Addr) (n c : Nat) (l : List (List UInt8)) (f : List UInt8) (w : World) (h : StrR w.heap.size w A n l) (hA : A = none → n = 0 ∧ c = 0) (hn : n ≤ 1000000) :
    Calls Tryd.prog 7 #[.slice A n c, .string (tx f)] w fun e w' => e = .returned (.slice (some ⟨w.heap.size, 0, none⟩) n (n + 3)) ∧ Hid (StrR w'.heap.size w' (some ⟨w.heap.size, 0, none⟩) (n + 3) (l ++ [f, f, f]) ∧ Below w.heap.size w w') := by
  have HMK := Lib.hid (make_own w n hn)
  have hmk := HMK.out
  obtain ⟨W2, hrun, ho, hb2⟩ := own_app h hA hn
  have HRUN := Lib.hid hrun
  have HN : Hid (n = l.length) := Lib.hid h.1
  have H0 : Hid (OwnAt w W2 n n l f) := Lib.hid (by
    rcases ho.2.2 with ⟨hv, _⟩ | ⟨g, cap, cur, hv, hg, hh, hc, hm, hs, ht⟩
    · cases hv
    · injection hv with e1 e2 e3
      injection e1 with e1
      injection e1 with e1 _ _
      subst e1 e3
      rw [Nat.mul_one] at hs ht
      exact ⟨cur, hh, hs, ht, fun j h1 h2 => by omega, hb2⟩)
  clear h hA hrun ho hb2 HMK
  go_enter Tryd.func7, Tryd.ntmps7
  go_wp2_with (at_builtin; go_must (refine wpl_app rfl _ _ _ rfl _ _ _ rfl rfl HRUN.out ?_))
  go_loopw [7] (fun iv wr => ∃ i : Nat, n ≤ i ∧ i ≤ n + 3 ∧ iv = .int .i64 i ∧ Hid (OwnAt w wr n i l f)) (fun iv _ => n + 3 - (intOf iv).toNat)
  case atStart => exact ⟨n, by omega, by omega, rfl, H0⟩
  case round =>
    obtain ⟨i, h1, h2, rfl, hh⟩ := hrel
    by_cases hlt : i < n + 3
    · obtain ⟨cs, q1, q2, q3, q4, q5⟩ := hh.out
      have d1 : wr.cell? ⟨w.heap.size, i, none⟩ = some (cs[i]'(by omega)) := by rw [q1.cell, Array.getElem?_eq_getElem (by omega)]
      have d2 := q1.frozen i
      have HN2 : Hid (OwnAt w (wr.setCell ⟨w.heap.size, i, none⟩ (.string (tx f))) n (i + 1) l f) := Lib.hid (by
        refine ⟨_, q1.set i _, by simpa using q2, ?_, ?_, q5.setCell (Nat.le_refl _) _⟩
        · rw [← q3, Array.toList_setIfInBounds, List.take_set_of_le (by omega)]
        · intro j hj1 hj2
          rw [Array.getElem?_setIfInBounds]
          by_cases e : i = j
          · rw [if_pos e, if_pos (by omega)]
          · rw [if_neg e]
            exact q4 j hj1 (by omega))
      generalize cs[i]'(by omega) = z0 at d1
      clear hh q1 q2 q3 q4 q5
      go_wp2_with fail
      go_roundw
      case rel => exact ⟨i + 1, by omega, by omega, by go_num, HN2⟩
      case measure => simp [intOf]; omega
    · obtain rfl : i = n + 3 := by omega
      have HF : Hid (StrR wr.heap.size wr (some ⟨w.heap.size, 0, none⟩) (n + 3) (l ++ [f, f, f]) ∧ Below w.heap.size w wr) := Lib.hid (by
        obtain ⟨cs, q1, q2, q3, q4, q5⟩ := hh.out
        have hn := HN.out
        refine ⟨⟨by simp; omega, fun j hj => ⟨w.heap.size, 0, rfl, q1.lt, ?_⟩⟩, q5⟩
        rw [q1.cell, Nat.zero_add]
        simp at hj
        by_cases e : j < n
        · have e2 := congrArg (fun q : List Value => q[j]?) q3
          simp only [List.getElem?_map, List.getElem?_take, Array.getElem?_toList] at e2
          rw [if_pos e, List.getElem?_eq_getElem (by omega)] at e2
          rw [e2, List.getElem_append_left (by omega)]
          rfl
        · rw [q4 j (by omega) (by omega), keep_get hn (by omega) (by omega)])
      clear hh
      go_wp2_with fail
      go_ret
      exact ⟨rfl, HF⟩

set_option maxRecDepth 100000 in
set_option maxHeartbeats 4000000 in
theorem Kept_c (g : Nat) (A : Option Addr) (n c : Nat) (l : List (List UInt8)) (f : List UInt8) (w : World) (h : StrR w.heap.size w (some ⟨g, 0, none⟩) (n + 3) (l ++ [f, f, f])) (h2 : StrR w.heap.size w A n l) (hn : n ≤ 1000000) :
    Calls Tryd.prog 17 #[.slice (some ⟨g, 0, none⟩) n (n + 3), .slice A n c, .string (tx f)] w fun e w' => e = .returned (.bool true) ∧ Hid (Below w.heap.size w w') := by
  have hln := h2.1
  have HN := Lib.hid hln
  have H := Lib.hid h
  have H1 : Hid (StrR w.heap.size w (some ⟨g, 0, none⟩) n l) := Lib.hid ⟨hln, fun j hj => by
    obtain ⟨g', o', e, hg, hc⟩ := h.2 j (by simp; omega)
    rw [List.getElem_append_left (by omega)] at hc
    exact ⟨g', o', e, hg, hc⟩⟩
  have H2 := Lib.hid h2
  clear h h2 hln
  have htl : ∀ l, (tx l).toList = l := fun l => by rw [toList_bs]; rfl
  go_enter Tryd.func17, Tryd.ntmps17
  go_wp2_with fail
  refine (SPlain_c (some ⟨g, 0, none⟩) A n n (n + 3) c l l _ _ _ H1.out (Nat.le_refl _) H2.out (Nat.le_refl _) (by omega) (by omega) true (by simp)).mono ?_
  rintro e w1 ⟨rfl, b1⟩
  have R1 := Lib.hid (H.out.below b1.out)
  go_wp2_with fail
  go_loopw [8] (fun iv wr => ∃ i : Nat, n ≤ i ∧ i ≤ n + 3 ∧ iv = .int .i64 i ∧ w1 = wr) (fun iv _ => n + 3 - (intOf iv).toNat)
  case atStart => exact ⟨n, by omega, by omega, rfl, rfl⟩
  case round =>
    obtain ⟨i, h1, h2, rfl, rfl⟩ := hrel
    by_cases hlt : i < n + 3
    · obtain ⟨g', o', e, hg, hc⟩ := R1.out.2 i (by have := HN.out; simp; omega)
      injection e with e
      injection e with e1 e2 _
      subst e1 e2
      rw [keep_get HN.out h1 hlt, Nat.zero_add] at hc
      go_wp2_with fail
      go_roundw
      case rel => exact ⟨i + 1, by omega, by omega, by go_num, by first | exact rfl | trivial⟩
      case measure => simp [intOf]; omega
    · obtain rfl : i = n + 3 := by omega
      go_wp2_with fail
      go_ret
      exact ⟨rfl, b1⟩
end Go.Proofs.YtjmjklmndokdiaaDoor
