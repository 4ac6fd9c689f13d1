/-
  No cell of these rows narrows 'for every input' (looked for: loops, veiled, ifaces, maps, wideKeys, modest, calm, conditions, laid).
  DERIVED. THE GIVEN ROWS OF THIS SEAT. 3 by the template 'for every input the law returns true; each argument reads behind the call as it read before'; 0 by the template 'total and deterministic' (their statements: YtdcgeobimenlpaaTotals.lean).
  GIVEN WITH THE SEED: the statements are not yours to turn. If you find one false, say at which input.
  Laid BY PROGRAM, IN A SANDBOX (cutbox-rows.mjs): the forced cells as the released guide's own fill.sh prints them over the translation 2288727ccb1195ff… (all of the seat's roots in one cut). By AI agents, Wed Nov 11 2026. No macro, syntax, notation, axiom, sorry.
-/
import Derived.Test.YtdcgeobimenlpaaChecked
import GoSem.Claim
import GoSem.ClaimJoined
import GoSem.ClaimMapViews
import Derived.JoinedTies
import Derived.KernelRfl
namespace Go.Proofs.Ytdcgeobimenlpaa
/- THE CELL 'sum', in the pinned program and in every row, IS THE sha256 OF THE DUMP (.gsa) THAT YtdcgeobimenlpaaProg.lean LOADS. Nothing in Lean hashes anything: it is a label: what it is worth is what the hold of that sum in a sandbox is worth. -/
noncomputable def Try.pinned : Pinned := { name := "ytdcgeobimenlpaa", sum := "2288727ccb1195ff39aee26db9520eb47b570b5aec58f3f994f16efe4b4b43e8", checked := Try.checked }
namespace Rows
def none {H : Type} : Left H := { results := [], args := [] }

/-- 'newellaw04.MarkupNeeds': WHATEVER THE INPUT: true; the input reads as it did. -/
def markupNeedsSpec : ChangeSpec := { name := "markupNeeds", fn := fun _ => fun
  | [d1, d2] => { results := [.lit (.bool true)], args := [d1, d2] }
  | _ => none }
def markupNeedsRow : OpenClaim := { program := "ytdcgeobimenlpaa", sum := "2288727ccb1195ff39aee26db9520eb47b570b5aec58f3f994f16efe4b4b43e8", func := "newel/newellaw04.MarkupNeeds", spec := "markupNeeds", inPlace := ["internal/abi.NoEscape"], apart := false }
def MarkupNeedsSaid : Prop := markupNeedsRow.holds Try.pinned (OpenSpec.ofChange markupNeedsSpec)

/-- ITS FALSE NEIGHBOUR: 'it returns false'. Refute it at one input. -/
def markupNeedsWrong : ChangeSpec := { name := "markupNeeds", fn := fun _ => fun
  | [d1, d2] => { results := [.lit (.bool false)], args := [d1, d2] }
  | _ => none }
def MarkupNeedsWrongFalsely : Prop := markupNeedsRow.holds Try.pinned (OpenSpec.ofChange markupNeedsWrong)

/-- 'newellaw04.MarkupEscapes': WHATEVER THE INPUT: true; the input reads as it did. -/
def markupEscapesSpec : ChangeSpec := { name := "markupEscapes", fn := fun _ => fun
  | [d1, d2] => { results := [.lit (.bool true)], args := [d1, d2] }
  | _ => none }
def markupEscapesRow : OpenClaim := { program := "ytdcgeobimenlpaa", sum := "2288727ccb1195ff39aee26db9520eb47b570b5aec58f3f994f16efe4b4b43e8", func := "newel/newellaw04.MarkupEscapes", spec := "markupEscapes", inPlace := ["internal/abi.NoEscape"], apart := false }
def MarkupEscapesSaid : Prop := markupEscapesRow.holds Try.pinned (OpenSpec.ofChange markupEscapesSpec)

/-- ITS FALSE NEIGHBOUR: 'it returns false'. Refute it at one input. -/
def markupEscapesWrong : ChangeSpec := { name := "markupEscapes", fn := fun _ => fun
  | [d1, d2] => { results := [.lit (.bool false)], args := [d1, d2] }
  | _ => none }
def MarkupEscapesWrongFalsely : Prop := markupEscapesRow.holds Try.pinned (OpenSpec.ofChange markupEscapesWrong)

/-- 'newellaw04.MarkupForm': WHATEVER THE INPUT: true; the input reads as it did. -/
def markupFormSpec : ChangeSpec := { name := "markupForm", fn := fun _ => fun
  | [d1, d2, d3] => { results := [.lit (.bool true)], args := [d1, d2, d3] }
  | _ => none }
def markupFormRow : OpenClaim := { program := "ytdcgeobimenlpaa", sum := "2288727ccb1195ff39aee26db9520eb47b570b5aec58f3f994f16efe4b4b43e8", func := "newel/newellaw04.MarkupForm", spec := "markupForm", inPlace := ["internal/abi.NoEscape"], apart := false }
def MarkupFormSaid : Prop := markupFormRow.holds Try.pinned (OpenSpec.ofChange markupFormSpec)

/-- ITS FALSE NEIGHBOUR: 'it returns false'. Refute it at one input. -/
def markupFormWrong : ChangeSpec := { name := "markupForm", fn := fun _ => fun
  | [d1, d2, d3] => { results := [.lit (.bool false)], args := [d1, d2, d3] }
  | _ => none }
def MarkupFormWrongFalsely : Prop := markupFormRow.holds Try.pinned (OpenSpec.ofChange markupFormWrong)

/- THE SECOND FORM. 'bulk': how many values and letters a reading holds, each counted each time it is reached (what is shared counts as often as it is met; a slice's spare places count too). A statement '..UptoSaid' is the law's where the arguments, and the package variables that the reading takes, are together of bulk at most 1048576: NARROWER than '..Said'. Prove '..Said' where nothing that the law and all that it calls make is longer than what came in: it says more and counts as full. Else prove '..UptoSaid'. A law counts once. -/
mutual
def uptoBulk {H : Type} : DataW H → Nat
  | .lit (.string bytes) => bytes.length + 1
  | .lit _ => 1
  | .nil => 1
  | .ptr d => uptoBulk d + 1
  | .slice elems spare => uptoBulkAll elems + uptoBulkAll spare + 1
  | .agg parts => uptoBulkAll parts + 1
  | .iface _ d => uptoBulk d + 1
  | .map entries => uptoBulkEntries entries + 1
  | .held _ => 1
def uptoBulkAll {H : Type} : List (DataW H) → Nat
  | [] => 0
  | d :: r => uptoBulk d + uptoBulkAll r
def uptoBulkEntries {H : Type} : List (Lit × DataW H) → Nat
  | [] => 0
  | x :: r => uptoBulkEntry x + uptoBulkEntries r
def uptoBulkEntry {H : Type} : Lit × DataW H → Nat
  | (.string bytes, d) => bytes.length + uptoBulk d + 1
  | (_, d) => uptoBulk d + 1
 end
def uptoSmall : (H : Type) → List (DataW H) → Bool := fun _ ds => decide (uptoBulkAll ds ≤ 1048576)
def OpenSpec.upto (s : _root_.Go.ChangeSpec) : _root_.Go.OpenSpec := { _root_.Go.OpenSpec.ofChange s with cond := some uptoSmall }

/-- 'newellaw04.MarkupNeeds', WHERE WHAT IT READS IS OF BULK AT MOST 1048576: true; the input reads as it did. -/
def markupNeedsUptoRow : OpenClaim := { program := "ytdcgeobimenlpaa", sum := "2288727ccb1195ff39aee26db9520eb47b570b5aec58f3f994f16efe4b4b43e8", func := "newel/newellaw04.MarkupNeeds", spec := "markupNeeds", inPlace := ["internal/abi.NoEscape"], apart := false, narrowed := true }
def MarkupNeedsUptoSaid : Prop := markupNeedsUptoRow.holds Try.pinned (OpenSpec.upto markupNeedsSpec)

/-- 'newellaw04.MarkupEscapes', WHERE WHAT IT READS IS OF BULK AT MOST 1048576: true; the input reads as it did. -/
def markupEscapesUptoRow : OpenClaim := { program := "ytdcgeobimenlpaa", sum := "2288727ccb1195ff39aee26db9520eb47b570b5aec58f3f994f16efe4b4b43e8", func := "newel/newellaw04.MarkupEscapes", spec := "markupEscapes", inPlace := ["internal/abi.NoEscape"], apart := false, narrowed := true }
def MarkupEscapesUptoSaid : Prop := markupEscapesUptoRow.holds Try.pinned (OpenSpec.upto markupEscapesSpec)

/-- 'newellaw04.MarkupForm', WHERE WHAT IT READS IS OF BULK AT MOST 1048576: true; the input reads as it did. -/
def markupFormUptoRow : OpenClaim := { program := "ytdcgeobimenlpaa", sum := "2288727ccb1195ff39aee26db9520eb47b570b5aec58f3f994f16efe4b4b43e8", func := "newel/newellaw04.MarkupForm", spec := "markupForm", inPlace := ["internal/abi.NoEscape"], apart := false, narrowed := true }
def MarkupFormUptoSaid : Prop := markupFormUptoRow.holds Try.pinned (OpenSpec.upto markupFormSpec)

end Rows
end Go.Proofs.Ytdcgeobimenlpaa
