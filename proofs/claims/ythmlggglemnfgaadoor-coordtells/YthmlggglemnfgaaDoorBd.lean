/-
  newelhelp.Plain over words: told whether two rows hold the same. Layer 5: awake; Right, Split and Plain as the laws call them. Numbers that a law makes of its arguments; one byte as a text. What the rows of this seat share: the wrap that keeps the world's shape beside what is laid (the walks read none of the listed variables).
-/
import Derived.Test.YthmlggglemnfgaaDoorBc
import Derived.Deep.RegionWith
import Derived.Test.YthmlggglemnfgaaDoorWdSplit2
import Derived.Test.YthmlggglemnfgaaDoorBa
import Derived.Laws.IdiomStrings
import Derived.Test.YthmlggglemnfgaaDoorRows
import Derived.ProofKit
import Derived.LaidMore
import Derived.Lay
import Derived.OpenShut
import Derived.ShutString
import Derived.ChangeOld
import Derived.Below
import Derived.HandedShaped
namespace Go.Proofs.YthmlggglemnfgaaDoor
open Nwl
open Go.RowKit Go.Maps
set_option linter.unusedVariables false

/-- a row of words that may be read, below block B -/
def WdR (B : Nat) (w : World) (A : Option Addr) (n : Nat) (l : List Wd) : Prop := n = l.length ∧ ∀ j (hj : j < l.length), ∃ g, A = some ⟨g, 0, none⟩ ∧ g < B ∧ w.cell? ⟨g, j * 2, none⟩ = some (.int .i64 (l[j].k : Nat)) ∧ w.cell? ⟨g, j * 2 + 1, none⟩ = some (.string (tx l[j].t))
theorem WdRow.r {B : Nat} {w : World} {A : Option Addr} {n c : Nat} {l : List Wd} (h : WdRow B w A n c l) : WdR w.heap.size w A n l := by
  refine ⟨h.1, fun j hj => ?_⟩
  rcases h.cells with ⟨_, _, rfl, _⟩ | ⟨g, rfl, _, hg, _, _, hc⟩
  · simp at hj
  · exact ⟨g, rfl, hg, hc j hj⟩
theorem WdR.below {B : Nat} {w w' : World} {A : Option Addr} {n : Nat} {l : List Wd} (h : WdR B w A n l) (hb : Below B w w') : WdR B w' A n l := by
  refine ⟨h.1, fun j hj => ?_⟩
  obtain ⟨g, hA, hg, c0, c1⟩ := h.2 j hj
  exact ⟨g, hA, hg, (hb.cell (p := ⟨g, j * 2, none⟩) hg).trans c0, (hb.cell (p := ⟨g, j * 2 + 1, none⟩) hg).trans c1⟩
theorem WdR.mono {B B' : Nat} {w : World} {A : Option Addr} {n : Nat} {l : List Wd} (h : WdR B w A n l) (hb : B ≤ B') : WdR B' w A n l := by
  refine ⟨h.1, fun j hj => ?_⟩
  obtain ⟨g, hA, hg, c0, c1⟩ := h.2 j hj
  exact ⟨g, hA, by omega, c0, c1⟩
/-- words that were laid in a block of their own -/
theorem WdR.blk {B g : Nat} {w : World} {l : List Wd} {cs : Array Value} (h : Blk w g 53 cs) (hB : g < B) (hc : cs.toList = wdCells l) : WdR B w (some ⟨g, 0, none⟩) l.length l := by
  refine ⟨rfl, fun j hj => ?_⟩
  obtain ⟨q1, q2⟩ := wdCells_get l j hj
  rw [← hc] at q1 q2
  exact ⟨g, rfl, hB, (h.cell _).trans (by simpa using q1), (h.cell _).trans (by simpa using q2)⟩

theorem below_drew_trans {w wr w2 : World} (h : Below w.heap.size w wr) (h2 : Below wr.drew.heap.size wr.drew w2) : Below w.heap.size w w2 := h.drew.trans (h2.mono h.size)

end Go.Proofs.YthmlggglemnfgaaDoor

namespace Nwl
def awW : List Wd := [⟨10, [49]⟩, ⟨1, []⟩, ⟨9, [49]⟩]
theorem aw_split : splitW [49, 46, 48, 45, 97, 108, 112, 104, 97, 49] = awW := by decide +kernel
theorem aw_right1 : rightV [49] = true := by decide +kernel
theorem aw_right0 : rightV [] = false := by decide +kernel
end Nwl
namespace Go.Proofs.YthmlggglemnfgaaDoor
open Nwl
open Go.RowKit Go.Maps
set_option linter.unusedVariables false

theorem Right_b (s : ByteArray) (w : World) (hs : s.size ≤ maxLen) (r : Bool) (hr : rightV (bs s) = r) :
    Calls Tryd.prog 32 #[.string s] w fun e w' => e = .returned (.bool r) ∧ w = w' := by
  subst hr; exact Right_c s w hs

theorem Split_b (v : ByteArray) (w : World) (hs : v.size ≤ 100000) (F : List Wd) (hF : splitW (bs v) = F) (n : Nat) (hn : F.length = n) :
    Calls Tryd.prog 38 #[.string v] w fun e w' => ∃ A c, e = .returned (.slice A n c) ∧ Hid (WdR w'.heap.size w' A n F) ∧ Hid (Below w.heap.size w w') := by
  subst hF
  subst hn
  refine (split_walk v w hs).mono ?_
  rintro e w' ⟨A, c, rfl, h1, h2⟩
  exact ⟨A, c, rfl, Lib.hid h1.r, Lib.hid h2⟩

end Go.Proofs.YthmlggglemnfgaaDoor

namespace Nwl
open Go
theorem idxN (a n : Int) (h0 : 0 < n) (h1 : n ≤ 2147483648) : ∃ x : Nat, Go.RowKit.wrap64 ((IntKind.u64.wrap a).tmod n) = (x : Int) ∧ (x : Int) < n := by
  have hu : 0 ≤ IntKind.u64.wrap a := by rw [IntKind.wrap_u64]; omega
  have h2 : (IntKind.u64.wrap a).tmod n = (IntKind.u64.wrap a) % n := Int.tmod_eq_emod_of_nonneg hu
  have h3 := Int.emod_nonneg (IntKind.u64.wrap a) (show n ≠ 0 by omega)
  have h4 := Int.emod_lt_of_pos (IntKind.u64.wrap a) h0
  rw [h2]
  have h5 : Go.RowKit.wrap64 (IntKind.u64.wrap a % n) = IntKind.u64.wrap a % n := by
    generalize IntKind.u64.wrap a % n = x at *
    unfold Go.RowKit.wrap64
    omega
  rw [h5]
  exact ⟨(IntKind.u64.wrap a % n).toNat, by omega, by omega⟩
theorem byteN (c : Int) (h : (Lit.int .u8 c).wf = true) : ∃ d : UInt8, c = (d.toNat : Int) := by
  have hb : 0 ≤ c ∧ c ≤ 255 := by
    unfold Lit.wf at h
    simp at h
    have e1 : IntKind.u8.min = 0 := by decide
    have e2 : IntKind.u8.max = 255 := by decide
    omega
  refine ⟨c.toNat.toUInt8, ?_⟩
  show c = ((c.toNat % 256 : Nat) : Int)
  omega
theorem txA (a b : List UInt8) : tx a ++ tx b = tx (a ++ b) := by
  apply bs_inj
  rw [bs_append, bs_tx, bs_tx, bs_tx]
end Nwl
namespace Go.Proofs.YthmlggglemnfgaaDoor
open Nwl
open Go.RowKit Go.Maps
theorem one_byte (w : World) (b : Nat) (d : UInt8) (hc : w.cell? ⟨b, 0, none⟩ = some (.int .u8 (d.toNat : Int))) :
    (convert 64 9 (.slice (some ⟨b, 0, none⟩) 1 1)).run Tryd.prog w = .ok (.string (tx [d])) w :=
  run_convert_bytes_back (P := Tryd.prog) w 64 9 5 ⟨b, 0, none⟩ 1 [d] Tryd.underlying64 Tryd.underlying5 Tryd.underlying9 (fun j hj => by
    have : j = 0 := by simpa using hj
    subst this
    exact hc)
end Go.Proofs.YthmlggglemnfgaaDoor

namespace Go.Proofs.YthmlggglemnfgaaDoor
open Go.ChangeShapes Go.WideShapes Go.ChangeAt Go.WideMaps Go.WideElems Go.RowKit
set_option linter.unusedVariables false

theorem ret_and_shaped {H : Type} {enc : TypeId × Value → H} {a : Assume} {C : Checked} {os : Os} {f : FuncId} {fn : Func} {s : ChangeSpec} {conds : List PathCond} {apart fresh handsOn again : Bool} {X : World → Array Value → Prop}
    (hX : ∀ (w w' : World) (args : Array Value), w.heap = w'.heap → X w args → X w' args)
    (own : ownKnob C.prog.godebug = none) (started : os.Started) (noInit : C.prog.inits.idxOf? f = none) (hfn : C.prog.funcs[f]? = some fn)
    (witness : ∃ (w : World) (tape : Tape) (i : Input), w.os = os ∧ (w.forCall tape i).Shaped C.prog ∧ i.vars = [] ∧ Input.okWide C.prog (w.forCall tape i) .any w.heap.size f i ∧
      ((s.pre enc C.prog fn conds apart (w.forCall tape i).memory i.args ∧ X (w.forCall tape i).memory i.args) ∧ sizedMet enc C.prog fn (OpenSpec.ofChange s) apart (w.forCall tape i).memory i.args) ∧ a.holds C.prog (lone (Frame.enter C.prog f i.args .normal) [] (w.forCall tape i)))
    (contract : ∀ (W : World) (base : Nat) (args : Array Value) (ds gs : List (DataW H)) (before : List MemPlace),
      (∀ (j : Nat) t v, fn.params[j]? = some t → args[j]? = some v → Value.okWide C.prog W .any base t v) →
      DataW.Whole enc C.prog fn.params.toList s.vars apart W args.toList ds gs before →
      (DataW.weightsEach C.prog (fn.params.toList ++ s.plain.varTypes C.prog) (ds ++ gs)).all (· ≤ reachBytes) = true → X W args → W.ShapedOpen C.prog →
      Calls C.prog f args W fun e W' => ∃ v, e = .returned v ∧ s.post enc C.prog fn apart fresh handsOn again W args v W') :
    ReturnsInHanded a C os f .any (fun w args => (s.pre enc C.prog fn conds apart w args ∧ X w args) ∧ sizedMet enc C.prog fn (OpenSpec.ofChange s) apart w args) (s.post enc C.prog fn apart fresh handsOn again) := by
  refine returnsInHanded_of_calls own started noInit witness ?_
  intro w tape i _ hsh _ hok hpre hholds
  obtain ⟨_, _, _, fn', hfn', _, _, _, _, hval⟩ := hok
  have e : fn' = fn := Option.some.inj (hfn'.symm.trans hfn)
  subst e
  obtain ⟨⟨⟨ds, gs, before, hw, hc⟩, hx⟩, hz⟩ := hpre
  have hw' := DataW.Whole.of_heap (w' := w.forCall tape i) (by rfl) hw
  refine (contract (w.forCall tape i) w.heap.size i.args ds gs before hval hw' (hz.weights hw) (hX _ _ _ (by rfl) hx) hsh).mono fun e W' ⟨v, he, hp⟩ => ?_
  subst he
  exact ChangeSpec.post_blind hp

theorem ownK : ownKnob Tryd.prog.godebug = none := by kernel_rfl
/-- what is laid, as every row of this seat lists it -/
def laidL : List (String × DataW Unit) := [("unicode/utf8.acceptRanges", Rows.laid_unicode_utf8_acceptRanges), ("unicode/utf8.first", Rows.laid_unicode_utf8_first)]
theorem door_met (os : Os) (args : Array Value) : laidMetH Tryd.prog laidL ((World.laidAll Tryd.prog os laidL).forCall (fun _ _ => 0) ⟨#[], args, []⟩).memory := by
  rw [MakeChecks.laidMetH_plain _ _ _ (by kernel_rfl)]
  exact laidMet_laidAll _ (by kernel_rfl) (by kernel_rfl)
/-- nothing is asked of what is laid -/
def Glob (w : World) : Prop := True
theorem glob_of {W : World} (h : laidMetH Tryd.prog laidL W) (hsh : W.ShapedOpen Tryd.prog) : Glob W := trivial

end Go.Proofs.YthmlggglemnfgaaDoor
