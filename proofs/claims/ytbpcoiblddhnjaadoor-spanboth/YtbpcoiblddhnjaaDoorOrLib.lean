/-
  Contracts of cmp.Compare, strings.Compare and cmp.Or (of two numbers), walked.
-/
import Derived.Test.YtbpcoiblddhnjaaDoorOrMath
import Derived.Test.YtbpcoiblddhnjaaDoorWdSplit
import Derived.Lib.Walk
import Derived.Lib.Slices
namespace Go.Proofs.YtbpcoiblddhnjaaDoor
open Nwl
open Go.RowKit Go.Maps
set_option linter.unusedVariables false

/-- as 'Below', and no draw is taken back -/
def Bd (w w' : World) : Prop := Below w.heap.size w w' ∧ w.drawn ≤ w'.drawn
theorem Bd.refl (w : World) : Bd w w := ⟨Below.refl _ _, Nat.le_refl _⟩
theorem Bd.trans {a b c : World} (h : Bd a b) (k : Bd b c) : Bd a c := ⟨h.1.trans (k.1.mono h.1.size), Nat.le_trans h.2 k.2⟩
theorem Bd.alloc {a b : World} (h : Bd a b) (o : Obj) : Bd a (b.alloc o) := ⟨h.1.alloc h.1.size o, h.2⟩
theorem Bd.drew {a b : World} (h : Bd a b) : Bd a b.drew := ⟨h.1.drew, Nat.le_trans h.2 (Nat.le_succ _)⟩
theorem Bd.set {a b : World} (h : Bd a b) {p : Addr} (hp : a.heap.size ≤ p.block) (u : Value) : Bd a (b.setCell p u) := ⟨h.1.setCell hp u, h.2⟩

set_option maxHeartbeats 1000000 in
theorem cmpInt_c (x y : Int) (w : World) (r : Int) (hr : Lib.compareInt x y = r) :
    Calls Tryd.prog 90 #[.int .i64 x, .int .i64 y] w fun e w' => e = .returned (.int .i64 r) ∧ w = w' := by
  subst hr
  go_enter Tryd.func90, Tryd.ntmps90
  go_wp2
  all_goals (go_ret; refine ⟨?_, rfl⟩; unfold Lib.compareInt; (repeat' split) <;> first | rfl | (exfalso; omega))

set_option maxHeartbeats 1000000 in
set_option maxRecDepth 100000 in
theorem cmpBytes_c (a b : ByteArray) (w : World) :
    Calls Tryd.prog 103 #[.string a, .string b] w fun e w' => e = .returned (.int .i64 (Lib.compareBytes a.data.toList b.data.toList)) ∧ w' = w := by
  go_enter Tryd.func103, Tryd.ntmps103
  go_wp2
  rw [run_callFunc_extern Tryd.func106 (by kernel_rfl) (by kernel_rfl) (by kernel_rfl) (e := Extern.BytealgCompare.compare) (by kernel_rfl), Lib.run_compareString]
  simp only [Result.andThen]
  rw [Oper.upon_value]
  go_wp2
  go_ret
  exact ⟨rfl, rfl⟩

set_option maxHeartbeats 1000000 in
theorem cmpStr_c (a b : ByteArray) (w : World) (r : Int) (hr : Lib.compareBytes (bs a) (bs b) = r) :
    Calls Tryd.prog 91 #[.string a, .string b] w fun e w' => e = .returned (.int .i64 r) ∧ w = w' := by
  subst hr
  go_enter Tryd.func91, Tryd.ntmps91
  go_wp2_with (go_at_call 103; refine (cmpBytes_c _ _ _).mono ?_; rintro e w' ⟨rfl, rfl⟩)
  go_ret
  exact ⟨rfl, rfl⟩

set_option maxHeartbeats 1000000 in
set_option maxRecDepth 100000 in
theorem cmpOr_c (g : Nat) (x y : Int) (w : World) (h0 : w.cell? ⟨g, 0, none⟩ = some (.int .i64 x)) (h1 : w.cell? ⟨g, 1, none⟩ = some (.int .i64 y)) (r : Int) (hr : thenI x y = r) :
    Calls Tryd.prog 104 #[.slice (some ⟨g, 0, none⟩) 2 2] w fun e w' => e = .returned (.int .i64 r) ∧ w = w' := by
  by_cases hx : x = 0
  · obtain rfl : y = r := by rw [← hr]; unfold thenI; rw [if_pos hx]
    subst hx
    clear hr
    by_cases hy : y = 0
    · subst hy
      go_enter Tryd.func104, Tryd.ntmps104
      go_wp2_with fail
      refine wp_loop_rounds 3 ?_
      rw [rounds_succ]
      go_wp2_with fail
      rw [rounds_succ]
      go_wp2_with fail
      rw [rounds_succ]
      go_wp2_with fail
      go_ret
      exact ⟨rfl, rfl⟩
    · have hy2 : (y != 0) = true := by rw [bne_iff_ne]; exact hy
      go_enter Tryd.func104, Tryd.ntmps104
      go_wp2_with fail
      refine wp_loop_rounds 2 ?_
      rw [rounds_succ]
      go_wp2_with fail
      rw [rounds_succ]
      go_wp2_with fail
      go_ret
      exact ⟨rfl, rfl⟩
  · obtain rfl : x = r := by rw [← hr]; unfold thenI; rw [if_neg hx]
    have hx2 : (x != 0) = true := by rw [bne_iff_ne]; exact hx
    clear hr
    go_enter Tryd.func104, Tryd.ntmps104
    go_wp2_with fail
    refine wp_loop_rounds 1 ?_
    rw [rounds_succ]
    go_wp2_with fail
    go_ret
    exact ⟨rfl, rfl⟩
end Go.Proofs.YtbpcoiblddhnjaaDoor
