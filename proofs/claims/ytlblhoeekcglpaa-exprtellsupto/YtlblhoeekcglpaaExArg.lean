/-
  Arguments that are slices of pieces, or of truths: what they read as; the wraps that keep the world's shape.
-/
import Derived.Test.YtlblhoeekcglpaaExMem
import Derived.Test.YtlblhoeekcglpaaRows
import Derived.Deep.Slices
import Derived.ChangeArms
import Derived.ChangeSlices
import Derived.HandedShaped
import Derived.JoinedCond
import Derived.ProofKit
import Derived.Carry
import Derived.Test.YtlblhoeekcglpaaExJoin
namespace Go.Proofs.Ytlblhoeekcglpaa
open Nwl
open Go.ChangeShapes Go.WideShapes Go.ChangeAt Go.RowKit
set_option linter.unusedVariables false
set_option linter.unusedSimpArgs false
theorem laid_out : laidOutB Try.prog = true := by kernel_rfl

set_option maxRecDepth 100000 in
theorem bools_arg {H : Type} {enc : TypeId × Value → H} {W : World} {base : Nat} {v : Value} {d : DataW H} {p : List MemPlace}
    (hv : Value.okWide Try.prog W .any base 36 v) (h : DataW.Trod enc Try.prog W 0 (fun _ => true) true 36 v d p) :
    ∃ (A : Option Addr) (n c : Nat), v = .slice A n c ∧ n ≤ maxLen ∧ ∀ j, j < n → ∃ b o z, A = some ⟨b, o, none⟩ ∧ b < W.heap.size ∧ W.cell? ⟨b, o + j, none⟩ = some (.bool z) := by
  obtain ⟨A, n, c, rfl⟩ := okWide_slice Try.underlying36 hv
  obtain ⟨f, hf⟩ := h
  rcases Go.Deep.open_slice1 Try.underlying36 (by kernel_rfl) hf with ⟨hcs, hx⟩ | ⟨a, len, cap, m, n', V, D, Pl, hcs, _, hle, hm, hmm, _, hel⟩
  · simp [Value.cells] at hcs
    obtain ⟨rfl, rfl, rfl⟩ := hcs
    exact ⟨none, 0, 0, rfl, Nat.zero_le _, fun j hj => by omega⟩
  · simp [Value.cells] at hcs
    obtain ⟨rfl, rfl, rfl⟩ := hcs
    simp only [if_true] at hmm
    refine ⟨some a, n, c, rfl, by omega, fun j hj => ?_⟩
    have each : ∀ i, i < n → ∃ z, W.cell? (a.add i) = some (.bool z) := fun i hi => by
      obtain ⟨h1, h2⟩ := hel i (by omega)
      obtain ⟨z, e, _⟩ := DataW.trod_bool Try.underlying4 h2
      simp at e
      exact ⟨z, by rw [h1, e]⟩
    obtain ⟨z0, c0⟩ := each 0 (by omega)
    obtain ⟨z, cj⟩ := each j hj
    obtain ⟨b, o, sp⟩ := a
    have hsp : sp = none := by
      cases sp with
      | none => rfl
      | some s =>
        exfalso
        simp [World.cell?, Addr.add] at c0
        split at c0 <;> cases c0
    subst hsp
    have hb := cell_lt c0
    rw [Addr.add_lit] at cj
    exact ⟨b, o, z, rfl, hb, cj⟩

set_option maxRecDepth 100000 in
theorem pc_el {H : Type} {enc : TypeId × Value → H} {W : World} {a : Addr} {i n' : Nat} {cs' : List Value} {x : DataW H × List MemPlace}
    (h1 : W.cells? 0 (a.add (i * Try.prog.cellsOf 29)) (Try.prog.cellsOf 29) = some cs') (h2 : DataW.trod enc Try.prog W 0 (fun _ => true) true n' 29 cs' = some x) :
    ∃ s : Pc, W.cell? (a.add (i * 2)) = some (.bool s.nm) ∧ W.cell? (a.add (i * 2 + 1)) = some (.string (tx s.t)) ∧ (writE s).length ≤ Rows.uptoBulk x.1 := by
  have hc4 : Try.prog.cellsOf 29 = 2 := by kernel_rfl
  have hcs : Try.prog.cellsOf 9 = 1 := by kernel_rfl
  have hcb : Try.prog.cellsOf 4 = 1 := by kernel_rfl
  rw [hc4] at h1
  obtain ⟨_, hlen, hcell⟩ := World.cells?_some h1
  obtain ⟨xs, k, _, hx, _, hxl, hf⟩ := DataW.trod_struct Try.underlying29 h2
  match xs, hxl, cs', hlen with
  | [y0, y1], _, [v0, v1], _ =>
    have g0 := hf 0 _ rfl
    have g1 := hf 1 _ rfl
    simp [hcs, hcb] at g0 g1
    obtain ⟨b0, e0, r0⟩ := DataW.trod_bool Try.underlying4 g0
    obtain ⟨s1, e1, r1, z1⟩ := DataW.trod_string Try.underlying9 g1
    have q0 := hcell 0 (by omega)
    have q1 := hcell 1 (by omega)
    simp at e0 e1
    subst e0 e1
    refine ⟨⟨b0, bs s1⟩, ?_, ?_, ?_⟩
    · simpa [Addr.add] using q0
    · rw [Go.Deep.add_add] at q1
      simpa [tx_bs] using q1
    · subst hx r0 r1
      have := wr_len ⟨b0, bs s1⟩
      have h2 : (bs s1).length = s1.data.toList.length := rfl
      simp only [List.map_cons, List.map_nil, Rows.uptoBulk, Rows.uptoBulkAll]
      dsimp only at this
      omega
theorem bulk_sum {H : Type} (D : Nat → DataW H) (f : Nat → Pc) (n : Nat) (h : ∀ i, i < n → (writE (f i)).length ≤ Rows.uptoBulk (D i)) : (joinE ((List.range n).map f)).length ≤ Rows.uptoBulkAll ((List.range n).map D) := by
  have app : ∀ (l r : List (DataW H)), Rows.uptoBulkAll (l ++ r) = Rows.uptoBulkAll l + Rows.uptoBulkAll r := fun l r => by
    induction l with
    | nil => simp [Rows.uptoBulkAll]
    | cons x l ih => simp only [List.cons_append, Rows.uptoBulkAll, ih]; omega
  induction n with
  | zero => simp [joinE]
  | succ n ih =>
    rw [List.range_succ, List.map_append, List.map_append, joinE_app, app, List.length_append]
    have h1 := ih (fun i hi => h i (by omega))
    have h2 := h n (by omega)
    have e1 : joinE ([n].map f) = writE (f n) := by simp [joinE]
    have e2 : Rows.uptoBulkAll ([n].map D) = Rows.uptoBulk (D n) := by simp [Rows.uptoBulkAll]
    rw [e1, e2]
    omega

set_option maxRecDepth 100000 in
theorem pcs_arg {H : Type} {enc : TypeId × Value → H} {W : World} {base : Nat} {v : Value} {d : DataW H} {p : List MemPlace}
    (hv : Value.okWide Try.prog W .any base 22 v) (h : DataW.Trod enc Try.prog W 0 (fun _ => true) true 22 v d p) :
    ∃ (A : Option Addr) (n c : Nat), v = .slice A n c ∧ n ≤ maxLen ∧ (A = none → n = 0 ∧ c = 0) ∧ ∃ l : List Pc, PcR W.heap.size W A n l ∧ (joinE l).length ≤ Rows.uptoBulk d := by
  obtain ⟨A, n, c, rfl⟩ := okWide_slice Try.underlying22 hv
  obtain ⟨f, hf⟩ := h
  rcases Go.Deep.open_slice Try.underlying22 hf with ⟨hcs, hx⟩ | ⟨a, len, cap, m, n', D, Pl, hcs, _, hle, hm, hmm, hx, hel⟩
  · simp [Value.cells] at hcs
    obtain ⟨rfl, rfl, rfl⟩ := hcs
    exact ⟨none, 0, 0, rfl, Nat.zero_le _, fun _ => ⟨rfl, rfl⟩, [], PcR.nil _ _ _, Nat.zero_le _⟩
  · simp [Value.cells] at hcs
    obtain ⟨rfl, rfl, rfl⟩ := hcs
    simp only [if_true] at hmm
    have each : ∀ i, ∃ s : Pc, i < n → W.cell? (a.add (i * 2)) = some (.bool s.nm) ∧ W.cell? (a.add (i * 2 + 1)) = some (.string (tx s.t)) ∧ (writE s).length ≤ Rows.uptoBulk (D i) := by
      intro i
      by_cases hi : i < n
      · obtain ⟨cs', h1, h2⟩ := hel i (by omega)
        obtain ⟨s, hs⟩ := pc_el h1 h2
        exact ⟨s, fun _ => hs⟩
      · exact ⟨⟨false, []⟩, fun h => absurd h hi⟩
    have hlen : ((List.range n).map fun i => Classical.choose (each i)).length = n := by simp
    have hget : ∀ j (hj : j < ((List.range n).map fun i => Classical.choose (each i)).length), ((List.range n).map fun i => Classical.choose (each i))[j] = Classical.choose (each j) := fun j hj => by simp
    refine ⟨some a, n, c, rfl, by omega, (fun e => by cases e), (List.range n).map (fun i => Classical.choose (each i)), ⟨hlen.symm, fun j hj => ?_⟩, ?_⟩
    · have hj' : j < n := by rw [hlen] at hj; exact hj
      obtain ⟨c0, c1, _⟩ := Classical.choose_spec (each j) hj'
      have c00 := (Classical.choose_spec (each 0) (by omega)).1
      rw [hget j hj]
      generalize Classical.choose (each j) = s at c0 c1 ⊢
      generalize Classical.choose (each 0) = s0 at c00
      obtain ⟨b, o, sp⟩ := a
      have hsp : sp = none := by
        cases sp with
        | none => rfl
        | some s =>
          exfalso
          simp [World.cell?, Addr.add] at c00
          split at c00 <;> cases c00
      subst hsp
      have hb := cell_lt c00
      rw [Addr.add_lit] at c0 c1
      exact ⟨b, o, rfl, hb, c0, by rw [Nat.add_assoc]; exact c1⟩
    · have hb := bulk_sum D (fun i => Classical.choose (each i)) n (fun i hi => (Classical.choose_spec (each i) hi).2.2)
      have hd : d = .slice ((List.range n).map D) ((List.range (m - n)).map fun j => D (n + j)) := congrArg Prod.fst hx
      rw [hd]
      simp only [Rows.uptoBulk]
      omega

theorem ret_upto {H : Type} {enc : TypeId × Value → H} {a : Assume} {C : Checked} {os : Os} {f : FuncId} {fn : Func} {s : OpenSpec} {k : (H : Type) → List (DataW H) → Bool} (hk : s.cond = some k) {F : Stop.Interp} {conds : List PathCond} {apart fresh handsOn again : Bool}
    (own : ownKnob C.prog.godebug = none) (started : os.Started) (noInit : C.prog.inits.idxOf? f = none) (hfn : C.prog.funcs[f]? = some fn)
    (witness : ∃ (w : World) (tape : Tape) (i : Input), w.os = os ∧ (w.forCall tape i).Shaped C.prog ∧ i.vars = [] ∧ Input.okWide C.prog (w.forCall tape i) .any w.heap.size f i ∧
      s.pre6 enc C.prog fn conds apart (w.forCall tape i).memory i.args ∧ a.holds C.prog (lone (Frame.enter C.prog f i.args .normal) [] (w.forCall tape i)))
    (contract : ∀ (W : World) (base : Nat) (args : Array Value) (ds gs : List (DataW H)) (before : List MemPlace),
      (∀ (j : Nat) t v, fn.params[j]? = some t → args[j]? = some v → Value.okWide C.prog W .any base t v) →
      DataW.Whole enc C.prog fn.params.toList s.vars apart W args.toList ds gs before →
      k H (ds ++ gs) = true → W.ShapedOpen C.prog →
      Calls C.prog f args W fun e W' => ∃ v, e = .returned v ∧ (s.at F).post enc C.prog fn apart fresh handsOn again W args v W') :
    ReturnsInHanded a C os f .any (s.pre6 enc C.prog fn conds apart) ((s.at F).post enc C.prog fn apart fresh handsOn again) := by
  refine returnsInHanded_of_calls own started noInit witness ?_
  intro w tape i _ hsh _ hok hpre hholds
  obtain ⟨_, _, _, fn', hfn', _, _, _, _, hval⟩ := hok
  have e : fn' = fn := Option.some.inj (hfn'.symm.trans hfn)
  subst e
  obtain ⟨ds, gs, before, hw, hc, hkk⟩ := (OpenSpec.pre_some hk conds apart _ _).1 hpre.1
  have hw' := DataW.Whole.of_heap (w' := w.forCall tape i) (by rfl) hw
  refine (contract (w.forCall tape i) w.heap.size i.args ds gs before hval hw' hkk hsh).mono fun e W' ⟨v, he, hp⟩ => ?_
  subst he
  exact ChangeSpec.post_blind hp
end Go.Proofs.Ytlblhoeekcglpaa
