/-
  The wrap of a statement with a condition on what comes in, the world's shape kept. An argument that is a slice of nodes: what it reads as; how much it weighs.
-/
import Derived.Test.YtkccockdnjjanaaGreatDoorRows
import Derived.HandedShaped
import Derived.JoinedCond
import Derived.ProofKit
import Derived.Test.YtkccockdnjjanaaGreatDoorBa
import Derived.Test.YtkccockdnjjanaaGreatDoorMkMath
import Derived.Deep.Slices
import Derived.ChangeArms
import Derived.ChangeSlices
import Derived.Carry
namespace Go.Proofs.YtkccockdnjjanaaGreatDoor
open Go.ChangeShapes Go.WideShapes Go.ChangeAt Go.RowKit
set_option linter.unusedVariables false
theorem ret_upto {H : Type} {enc : TypeId × Value → H} {a : Assume} {C : Checked} {os : Os} {f : FuncId} {fn : Func} {s : OpenSpec} {k : (H : Type) → List (DataW H) → Bool} (hk : s.cond = some k) {F : Stop.Interp} {conds : List PathCond} {apart fresh handsOn again : Bool}
    (own : ownKnob C.prog.godebug = none) (started : os.Started) (noInit : C.prog.inits.idxOf? f = none) (hfn : C.prog.funcs[f]? = some fn)
    (witness : ∃ (w : World) (tape : Tape) (i : Input), w.os = os ∧ (w.forCall tape i).Shaped C.prog ∧ i.vars = [] ∧ Input.okWide C.prog (w.forCall tape i) .any w.heap.size f i ∧
      s.pre6 enc C.prog fn conds apart (w.forCall tape i).memory i.args ∧ a.holds C.prog (lone (Frame.enter C.prog f i.args .normal) [] (w.forCall tape i)))
    (contract : ∀ (W : World) (base : Nat) (args : Array Value) (ds gs : List (DataW H)) (before : List MemPlace),
      (∀ (j : Nat) t v, fn.params[j]? = some t → args[j]? = some v → Value.okWide C.prog W .any base t v) →
      DataW.Whole enc C.prog fn.params.toList s.vars apart W args.toList ds gs before →
      k H (ds ++ gs) = true → W.ShapedOpen C.prog →
      Calls C.prog f args W fun e W' => ∃ v, e = .returned v ∧ (s.at F).post enc C.prog fn apart fresh handsOn again W args v W') :
    ReturnsInHanded a C os f .any (s.pre6 enc C.prog fn conds apart) ((s.at F).post enc C.prog fn apart fresh handsOn again) := by
  refine returnsInHanded_of_calls own started noInit witness ?_
  intro w tape i _ hsh _ hok hpre hholds
  obtain ⟨_, _, _, fn', hfn', _, _, _, _, hval⟩ := hok
  have e : fn' = fn := Option.some.inj (hfn'.symm.trans hfn)
  subst e
  obtain ⟨ds, gs, before, hw, hc, hkk⟩ := (OpenSpec.pre_some hk conds apart _ _).1 hpre.1
  have hw' := DataW.Whole.of_heap (w' := w.forCall tape i) (by rfl) hw
  refine (contract (w.forCall tape i) w.heap.size i.args ds gs before hval hw' hkk hsh).mono fun e W' ⟨v, he, hp⟩ => ?_
  subst he
  exact ChangeSpec.post_blind hp
end Go.Proofs.YtkccockdnjjanaaGreatDoor

namespace Nwl
theorem flat_at {α β : Type} (f : α → List β) (k : Nat) (hk : ∀ x, (f x).length = k) : ∀ (L : List α) (i r : Nat) (hi : i < L.length), r < k → (L.flatMap f)[i * k + r]? = (f L[i])[r]?
  | x :: L, 0, r, _, hr => by
    rw [List.flatMap_cons, Nat.zero_mul, Nat.zero_add, List.getElem?_append_left (by rw [hk]; exact hr)]
    rfl
  | x :: L, i + 1, r, hi, hr => by
    have ih := flat_at f k hk L i r (by simpa using hi) hr
    rw [List.flatMap_cons, List.getElem?_append_right (by rw [hk, Nat.succ_mul]; omega), hk, Nat.succ_mul, show i * k + k + r - k = i * k + r by omega]
    exact ih
theorem flat_len {α β : Type} (f : α → List β) (k : Nat) (hk : ∀ x, (f x).length = k) : ∀ (L : List α), (L.flatMap f).length = L.length * k
  | [] => by simp
  | x :: L => by rw [List.flatMap_cons, List.length_append, hk, flat_len f k hk L, List.length_cons, Nat.succ_mul]; omega
end Nwl
namespace Go.Proofs.YtkccockdnjjanaaGreatDoor
open Nwl
open Go.ChangeShapes Go.WideShapes Go.ChangeAt Go.RowKit
set_option linter.unusedVariables false
set_option linter.unusedSimpArgs false

/-- a row told thing by thing -/
theorem rowR_of {B b o c : Nat} {W : World} {α : Type} (f : α → List Value) (k : Nat) (hk0 : 0 < k) (hk : ∀ x, (f x).length = k) (L : List α) (hb : b < B) (hc : L.length ≤ c) (h : ∀ i (hi : i < L.length) r u, (f L[i])[r]? = some u → W.cell? ⟨b, o + (i * k + r), none⟩ = some u) : RowR B W (.slice (some ⟨b, o, none⟩) L.length c) L.length k (L.flatMap f) := by
  refine ⟨flat_len f k hk L, .inr ⟨b, o, c, rfl, hb, hc, fun j u hu => ?_⟩⟩
  have hj : j < L.length * k := by
    rcases Nat.lt_or_ge j (L.length * k) with h' | h'
    · exact h'
    · rw [List.getElem?_eq_none (by rw [flat_len f k hk]; exact h')] at hu; cases hu
  have hdiv : j / k < L.length := Nat.div_lt_of_lt_mul (by rw [Nat.mul_comm]; exact hj)
  have hj2 : j = j / k * k + j % k := by rw [Nat.mul_comm]; exact (Nat.div_add_mod j k).symm
  rw [hj2] at hu ⊢
  rw [flat_at f k hk L _ _ hdiv (Nat.mod_lt _ hk0)] at hu
  exact h _ hdiv _ _ hu
theorem spot_none {w : World} {a : Addr} {u : Value} (h : w.cell? (a.add (0 * 2)) = some u) : a.spot = none := by
  obtain ⟨b, o, sp⟩ := a
  cases sp with
  | none => rfl
  | some s =>
    exfalso
    simp [World.cell?, Addr.add] at h
    split at h <;> simp_all
theorem cell_ltN {w : World} {a : Addr} {v : Value} (h : w.cell? a = some v) : a.block < w.heap.size := by
  rcases Nat.lt_or_ge a.block w.heap.size with h' | h'
  · exact h'
  · simp [World.cell?, Array.getElem?_eq_none h'] at h
theorem bulk_app {H : Type} (l r : List (DataW H)) : Rows.uptoBulkAll (l ++ r) = Rows.uptoBulkAll l + Rows.uptoBulkAll r := by
  induction l with
  | nil => simp [Rows.uptoBulkAll]
  | cons x l ih => simp only [List.cons_append, Rows.uptoBulkAll, ih]; omega
theorem bulk_range {H : Type} (D : Nat → DataW H) (g : Nat → Nat) : ∀ (n : Nat), (∀ i, i < n → g i ≤ Rows.uptoBulk (D i)) → ((List.range n).map g).sum ≤ Rows.uptoBulkAll ((List.range n).map D)
  | 0, _ => by simp
  | n + 1, h => by
    rw [List.range_succ, List.map_append, List.map_append, bulk_app, List.sum_append]
    have h1 := bulk_range D g n (fun i hi => h i (by omega))
    have h2 := h n (by omega)
    simp only [List.map_cons, List.map_nil, List.sum_cons, List.sum_nil, Rows.uptoBulkAll]
    omega

set_option maxRecDepth 100000 in
theorem attr_el {H : Type} {enc : TypeId × Value → H} {W : World} {a : Addr} {i n' : Nat} {cs' : List Value} {x : DataW H × List MemPlace}
    (h1 : W.cells? 0 (a.add (i * Tryz.prog.cellsOf 61)) (Tryz.prog.cellsOf 61) = some cs') (h2 : DataW.trod enc Tryz.prog W 0 (fun _ => true) true n' 61 cs' = some x) :
    ∃ s : List UInt8 × List UInt8, W.cell? (a.add (i * 2)) = some (.string (tx s.1)) ∧ W.cell? (a.add (i * 2 + 1)) = some (.string (tx s.2)) ∧ s.1.length + s.2.length + 1 ≤ Rows.uptoBulk x.1 := by
  have hc4 : Tryz.prog.cellsOf 61 = 2 := by kernel_rfl
  have hcs : Tryz.prog.cellsOf 9 = 1 := by kernel_rfl
  rw [hc4] at h1
  obtain ⟨_, hlen, hcell⟩ := World.cells?_some h1
  obtain ⟨xs, k, _, hx, _, hxl, hf⟩ := DataW.trod_struct Tryz.underlying61 h2
  match xs, hxl, cs', hlen with
  | [y0, y1], _, [v0, v1], _ =>
    have g0 := hf 0 _ rfl
    have g1 := hf 1 _ rfl
    simp [hcs] at g0 g1
    obtain ⟨s0, e0, r0, _⟩ := DataW.trod_string Tryz.underlying9 g0
    obtain ⟨s1, e1, r1, _⟩ := DataW.trod_string Tryz.underlying9 g1
    have q0 := hcell 0 (by omega)
    have q1 := hcell 1 (by omega)
    simp at e0 e1
    subst e0 e1
    refine ⟨⟨bs s0, bs s1⟩, ?_, ?_, ?_⟩
    · simpa [tx_bs, Addr.add] using q0
    · rw [Go.Deep.add_add] at q1
      simpa [tx_bs] using q1
    · subst hx r0 r1
      have h1 : (bs s0).length = s0.data.toList.length := rfl
      have h2 : (bs s1).length = s1.data.toList.length := rfl
      simp only [List.map_cons, List.map_nil, Rows.uptoBulk, Rows.uptoBulkAll]
      omega
/-- how much attributes weigh -/
def attrsBk (l : List (List UInt8 × List UInt8)) : Nat := (l.map fun a => a.1.length + a.2.length + 1).sum
set_option maxRecDepth 100000 in
theorem attrs_of {H : Type} {enc : TypeId × Value → H} {W : World} {v : Value} {f : Nat} {x : DataW H × List MemPlace} (hf : DataW.trod enc Tryz.prog W 0 (fun _ => true) true f 30 [v] = some x) :
    ∃ as' : List (List UInt8 × List UInt8), RowR W.heap.size W v as'.length 2 (attrCells as') ∧ attrsBk as' ≤ Rows.uptoBulk x.1 := by
  rcases Go.Deep.open_slice Tryz.underlying30 hf with ⟨hcs, hx⟩ | ⟨a, len, cap, m, n', D, Pl, hcs, _, hle, hm, hmm, hx, hel⟩
  · injection hcs with hcs _
    subst hcs
    exact ⟨[], ⟨rfl, .inl ⟨⟨none, 0, rfl, fun _ => rfl⟩, rfl⟩⟩, Nat.zero_le _⟩
  · injection hcs with hcs _
    subst hcs
    simp only [if_true] at hmm
    rcases Nat.eq_zero_or_pos len with h0 | h0
    · subst h0
      exact ⟨[], ⟨rfl, .inl ⟨⟨some a, cap, rfl, fun e => by cases e⟩, rfl⟩⟩, Nat.zero_le _⟩
    · have each : ∀ i, ∃ s : List UInt8 × List UInt8, i < len → W.cell? (a.add (i * 2)) = some (.string (tx s.1)) ∧ W.cell? (a.add (i * 2 + 1)) = some (.string (tx s.2)) ∧ s.1.length + s.2.length + 1 ≤ Rows.uptoBulk (D i) := by
        intro i
        by_cases hi : i < len
        · obtain ⟨cs', h1, h2⟩ := hel i (by omega)
          obtain ⟨s, hs⟩ := attr_el h1 h2
          exact ⟨s, fun _ => hs⟩
        · exact ⟨⟨[], []⟩, fun h => absurd h hi⟩
      obtain ⟨g, hg⟩ : ∃ g : Nat → List UInt8 × List UInt8, ∀ i, i < len → W.cell? (a.add (i * 2)) = some (.string (tx (g i).1)) ∧ W.cell? (a.add (i * 2 + 1)) = some (.string (tx (g i).2)) ∧ (g i).1.length + (g i).2.length + 1 ≤ Rows.uptoBulk (D i) := ⟨fun i => Classical.choose (each i), fun i hi => Classical.choose_spec (each i) hi⟩
      have hsp := spot_none (hg 0 h0).1
      obtain ⟨b, o, sp⟩ := a
      dsimp only at hsp
      subst hsp
      have hb := cell_ltN (hg 0 h0).1
      rw [Addr.add_lit] at hb
      have hln : ((List.range len).map g).length = len := by simp
      refine ⟨(List.range len).map g, ?_, ?_⟩
      · have := rowR_of (B := W.heap.size) (b := b) (o := o) (c := cap) (W := W) (fun a : List UInt8 × List UInt8 => [Value.string (tx a.1), .string (tx a.2)]) 2 (by decide) (fun _ => rfl) ((List.range len).map g) hb (by rw [hln]; exact hle) (fun i hi r u hu => by
          have hi' : i < len := by rw [hln] at hi; exact hi
          obtain ⟨c0, c1, _⟩ := hg i hi'
          rw [Addr.add_lit] at c0 c1
          have e : ((List.range len).map g)[i]'hi = g i := by simp
          rw [e] at hu
          match r, hu with
          | 0, hu => injection hu with hu; subst hu; exact c0
          | 1, hu => injection hu with hu; subst hu; exact c1
          | r + 2, hu => simp at hu)
        rw [hln] at this ⊢
        exact this
      · have hb2 := bulk_range D (fun i => (g i).1.length + (g i).2.length + 1) len (fun i hi => (hg i hi).2.2)
        rw [hx]
        simp only [Rows.uptoBulk, attrsBk, List.map_map]
        exact Nat.le_trans hb2 (by omega)

set_option maxRecDepth 100000 in
theorem node_el {H : Type} {enc : TypeId × Value → H} {W : World} {a : Addr} {i n' : Nat} {cs' : List Value} {x : DataW H × List MemPlace}
    (h1 : W.cells? 0 (a.add (i * Tryz.prog.cellsOf 32)) (Tryz.prog.cellsOf 32) = some cs') (h2 : DataW.trod enc Tryz.prog W 0 (fun _ => true) true n' 32 cs' = some x) :
    ∃ (y : Nd) (av : Value), W.cell? (a.add (i * 4)) = some (.int .i64 y.parent) ∧ W.cell? (a.add (i * 4 + 1)) = some (.string (tx y.name)) ∧ W.cell? (a.add (i * 4 + 2)) = some (.string (tx y.text)) ∧ W.cell? (a.add (i * 4 + 3)) = some av ∧ RowR W.heap.size W av y.attrs.length 2 (attrCells y.attrs) ∧ bulkN y ≤ Rows.uptoBulk x.1 ∧ (Lit.int .i64 y.parent).wf = true := by
  have hc4 : Tryz.prog.cellsOf 32 = 4 := by kernel_rfl
  have hcs : Tryz.prog.cellsOf 9 = 1 := by kernel_rfl
  have hci : Tryz.prog.cellsOf 3 = 1 := by kernel_rfl
  have hca : Tryz.prog.cellsOf 30 = 1 := by kernel_rfl
  rw [hc4] at h1
  obtain ⟨_, hlen, hcell⟩ := World.cells?_some h1
  obtain ⟨xs, k, _, hx, _, hxl, hf⟩ := DataW.trod_struct Tryz.underlying32 h2
  match xs, hxl, cs', hlen with
  | [y0, y1, y2, y3], _, [v0, v1, v2, v3], _ =>
    have g0 := hf 0 _ rfl
    have g1 := hf 1 _ rfl
    have g2 := hf 2 _ rfl
    have g3 := hf 3 _ rfl
    simp [hcs, hci, hca] at g0 g1 g2 g3
    obtain ⟨z0, e0, r0, w0⟩ := DataW.trod_int Tryz.underlying3 g0
    obtain ⟨s1, e1, r1, _⟩ := DataW.trod_string Tryz.underlying9 g1
    obtain ⟨s2, e2, r2, _⟩ := DataW.trod_string Tryz.underlying9 g2
    obtain ⟨as', ha, hb⟩ := attrs_of g3
    have q0 := hcell 0 (by omega)
    have q1 := hcell 1 (by omega)
    have q2 := hcell 2 (by omega)
    have q3 := hcell 3 (by omega)
    simp at e0 e1 e2
    subst e0 e1 e2
    refine ⟨⟨z0, bs s1, bs s2, as'⟩, v3, ?_, ?_, ?_, ?_, ha, ?_, w0⟩
    · simpa [Addr.add] using q0
    · rw [Go.Deep.add_add] at q1
      simpa [tx_bs] using q1
    · rw [Go.Deep.add_add] at q2
      simpa [tx_bs] using q2
    · rw [Go.Deep.add_add] at q3
      simpa using q3
    · subst hx r0 r1 r2
      have h1 : (bs s1).length = s1.data.toList.length := rfl
      have h2 : (bs s2).length = s2.data.toList.length := rfl
      simp only [List.map_cons, List.map_nil, Rows.uptoBulk, Rows.uptoBulkAll, bulkN]
      unfold attrsBk at hb
      omega
theorem ndi_of {B : Nat} {w : World} : ∀ (L : List (Nd × Value)), (∀ x ∈ L, RowR B w x.2 x.1.attrs.length 2 (attrCells x.1.attrs)) → NdiCells B w (L.map (·.1)) (L.flatMap fun x => [.int .i64 x.1.parent, .string (tx x.1.name), .string (tx x.1.text), x.2])
  | [], _ => rfl
  | x :: L, h => ⟨x.2, _, rfl, h x (by simp), ndi_of L fun y hy => h y (by simp [hy])⟩

set_option maxRecDepth 100000 in
theorem nodes_arg {H : Type} {enc : TypeId × Value → H} {W : World} {base : Nat} {v : Value} {d : DataW H} {p : List MemPlace}
    (hv : Value.okWide Tryz.prog W .any base 23 v) (h : DataW.Trod enc Tryz.prog W 0 (fun _ => true) true 23 v d p) :
    ∃ (A : Option Addr) (n c : Nat), v = .slice A n c ∧ n ≤ maxLen ∧ ∃ ns : List Nd, n = ns.length ∧ NodesR W.heap.size W (.slice A n c) ns ∧ ∀ x ∈ ns, bulkN x ≤ Rows.uptoBulk d ∧ (Lit.int .i64 x.parent).wf = true := by
  obtain ⟨A, n, c, rfl⟩ := okWide_slice Tryz.underlying23 hv
  obtain ⟨f, hf⟩ := h
  rcases Go.Deep.open_slice Tryz.underlying23 hf with ⟨hcs, hx⟩ | ⟨a, len, cap, m, n', D, Pl, hcs, _, hle, hm, hmm, hxx, hel⟩
  · simp [Value.cells] at hcs
    obtain ⟨rfl, rfl, rfl⟩ := hcs
    exact ⟨none, 0, 0, rfl, Nat.zero_le _, [], rfl, ⟨[], ⟨rfl, .inl ⟨⟨none, 0, rfl, fun _ => rfl⟩, rfl⟩⟩, rfl⟩, fun x hx => by cases hx⟩
  · simp [Value.cells] at hcs
    obtain ⟨rfl, rfl, rfl⟩ := hcs
    simp only [if_true] at hmm
    rcases Nat.eq_zero_or_pos n with h0 | h0
    · subst h0
      exact ⟨some a, 0, c, rfl, Nat.zero_le _, [], rfl, ⟨[], ⟨rfl, .inl ⟨⟨some a, c, rfl, fun e => by cases e⟩, rfl⟩⟩, rfl⟩, fun x hx => by cases hx⟩
    · have each : ∀ i, ∃ s : Nd × Value, i < n → W.cell? (a.add (i * 4)) = some (.int .i64 s.1.parent) ∧ W.cell? (a.add (i * 4 + 1)) = some (.string (tx s.1.name)) ∧ W.cell? (a.add (i * 4 + 2)) = some (.string (tx s.1.text)) ∧ W.cell? (a.add (i * 4 + 3)) = some s.2 ∧ RowR W.heap.size W s.2 s.1.attrs.length 2 (attrCells s.1.attrs) ∧ bulkN s.1 ≤ Rows.uptoBulk (D i) ∧ (Lit.int .i64 s.1.parent).wf = true := by
        intro i
        by_cases hi : i < n
        · obtain ⟨cs', h1, h2⟩ := hel i (by omega)
          obtain ⟨y, av, hs⟩ := node_el h1 h2
          exact ⟨(y, av), fun _ => hs⟩
        · exact ⟨(⟨0, [], [], []⟩, .bool false), fun h => absurd h hi⟩
      obtain ⟨g, hg⟩ : ∃ g : Nat → Nd × Value, ∀ i, i < n → W.cell? (a.add (i * 4)) = some (.int .i64 (g i).1.parent) ∧ W.cell? (a.add (i * 4 + 1)) = some (.string (tx (g i).1.name)) ∧ W.cell? (a.add (i * 4 + 2)) = some (.string (tx (g i).1.text)) ∧ W.cell? (a.add (i * 4 + 3)) = some (g i).2 ∧ RowR W.heap.size W (g i).2 (g i).1.attrs.length 2 (attrCells (g i).1.attrs) ∧ bulkN (g i).1 ≤ Rows.uptoBulk (D i) ∧ (Lit.int .i64 (g i).1.parent).wf = true := ⟨fun i => Classical.choose (each i), fun i hi => Classical.choose_spec (each i) hi⟩
      have hsp := spot_none (by have := (hg 0 h0).1; rw [Nat.zero_mul] at this ⊢; exact this)
      obtain ⟨b, o, sp⟩ := a
      dsimp only at hsp
      subst hsp
      have hb := cell_ltN (hg 0 h0).1
      rw [Addr.add_lit] at hb
      have hln : ((List.range n).map g).length = n := by simp
      refine ⟨some ⟨b, o, none⟩, n, c, rfl, by omega, ((List.range n).map g).map (·.1), by simp, ⟨((List.range n).map g).flatMap fun x => [.int .i64 x.1.parent, .string (tx x.1.name), .string (tx x.1.text), x.2], ?_, ndi_of _ fun x hx => ?_⟩, fun x hx => ?_⟩
      · have := rowR_of (B := W.heap.size) (b := b) (o := o) (c := c) (W := W) (fun x : Nd × Value => [.int .i64 x.1.parent, .string (tx x.1.name), .string (tx x.1.text), x.2]) 4 (by decide) (fun _ => rfl) ((List.range n).map g) hb (by rw [hln]; exact hle) (fun i hi r u hu => by
          have hi' : i < n := by rw [hln] at hi; exact hi
          obtain ⟨c0, c1, c2, c3, _⟩ := hg i hi'
          rw [Addr.add_lit] at c0 c1 c2 c3
          have e : ((List.range n).map g)[i]'hi = g i := by simp
          rw [e] at hu
          match r, hu with
          | 0, hu => injection hu with hu; subst hu; exact c0
          | 1, hu => injection hu with hu; subst hu; exact c1
          | 2, hu => injection hu with hu; subst hu; exact c2
          | 3, hu => injection hu with hu; subst hu; exact c3
          | r + 4, hu => simp at hu)
        have e2 : (((List.range n).map g).map (·.1)).length = n := by simp
        rw [e2]
        rw [hln] at this
        exact this
      · obtain ⟨i, hi, rfl⟩ := List.mem_map.1 hx
        exact (hg i (List.mem_range.1 hi)).2.2.2.2.1
      · obtain ⟨y, hy, rfl⟩ := List.mem_map.1 hx
        obtain ⟨i, hi, rfl⟩ := List.mem_map.1 hy
        have hh := hg i (List.mem_range.1 hi)
        refine ⟨?_, hh.2.2.2.2.2.2⟩
        have h1 : Rows.uptoBulk (D i) ≤ Rows.uptoBulkAll ((List.range n).map D) := by
          have hm : D i ∈ (List.range n).map D := List.mem_map.2 ⟨i, hi, rfl⟩
          generalize (List.range n).map D = l at hm
          induction l with
          | nil => cases hm
          | cons x l ih =>
            simp only [Rows.uptoBulkAll]
            rcases List.mem_cons.1 hm with e | e
            · subst e; omega
            · have := ih e; omega
        have hd : d = .slice ((List.range n).map D) ((List.range (m - n)).map fun j => D (n + j)) := congrArg Prod.fst hxx
        rw [hd]
        simp only [Rows.uptoBulk]
        omega
end Go.Proofs.YtkccockdnjjanaaGreatDoor
