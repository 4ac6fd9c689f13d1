/-
  No cell of these rows narrows 'for every input' (looked for: loops, veiled, ifaces, maps, wideKeys, modest, calm, conditions, laid).
  DERIVED. THE GIVEN ROWS OF THIS SEAT. 2 by the template 'for every input the law returns true; each argument reads behind the call as it read before'; 0 by the template 'total and deterministic' (their statements: YthmlggglemnfgaaTotals.lean).
  GIVEN WITH THE SEED: the statements are not yours to turn. If you find one false, say at which input.
  Laid BY PROGRAM, IN A SANDBOX (cutbox-rows.mjs): the forced cells as the released guide's own fill.sh prints them over the translation 43d5424bb1cca54d… (all of the seat's roots in one cut). By AI agents, Wed Nov 11 2026. No macro, syntax, notation, axiom, sorry.
-/
import Derived.Test.YthmlggglemnfgaaChecked
import GoSem.Claim
import GoSem.ClaimJoined
import GoSem.ClaimMapViews
import Derived.JoinedTies
import Derived.KernelRfl
namespace Go.Proofs.Ythmlggglemnfgaa
/- THE CELL 'sum', in the pinned program and in every row, IS THE sha256 OF THE DUMP (.gsa) THAT YthmlggglemnfgaaProg.lean LOADS. Nothing in Lean hashes anything: it is a label: what it is worth is what the hold of that sum in a sandbox is worth. -/
noncomputable def Try.pinned : Pinned := { name := "ythmlggglemnfgaa", sum := "43d5424bb1cca54df5f9811795f7d2c2d30de9e94472dcf426412bd67f51bec6", checked := Try.checked }
namespace Rows
def none {H : Type} : Left H := { results := [], args := [] }

/-- 'newellaw09.CoordKeys': WHATEVER THE INPUT: true; the input reads as it did. -/
def coordKeysSpec : ChangeSpec := { name := "coordKeys", fn := fun _ => fun
  | [d1, d2] => { results := [.lit (.bool true)], args := [d1, d2] }
  | _ => none }
def coordKeysRow : OpenClaim := { program := "ythmlggglemnfgaa", sum := "43d5424bb1cca54df5f9811795f7d2c2d30de9e94472dcf426412bd67f51bec6", func := "newel/newellaw09.CoordKeys", spec := "coordKeys", inPlace := ["internal/bytealg.IndexByteString", "internal/bytealg.IndexString"], unfollowed := true, recurses := true, named := ["internal/bytealg.MaxLen"], apart := false }
def CoordKeysSaid : Prop := coordKeysRow.holds Try.pinned (OpenSpec.ofChange coordKeysSpec)

/-- ITS FALSE NEIGHBOUR: 'it returns false'. Refute it at one input. -/
def coordKeysWrong : ChangeSpec := { name := "coordKeys", fn := fun _ => fun
  | [d1, d2] => { results := [.lit (.bool false)], args := [d1, d2] }
  | _ => none }
def CoordKeysWrongFalsely : Prop := coordKeysRow.holds Try.pinned (OpenSpec.ofChange coordKeysWrong)

/-- 'newellaw09.CoordIds': WHATEVER THE INPUT: true; the input reads as it did. -/
def coordIdsSpec : ChangeSpec := { name := "coordIds", fn := fun _ => fun
  | [d1, d2] => { results := [.lit (.bool true)], args := [d1, d2] }
  | _ => none }
def coordIdsRow : OpenClaim := { program := "ythmlggglemnfgaa", sum := "43d5424bb1cca54df5f9811795f7d2c2d30de9e94472dcf426412bd67f51bec6", func := "newel/newellaw09.CoordIds", spec := "coordIds", inPlace := ["internal/bytealg.IndexByteString", "internal/bytealg.IndexString"], named := ["internal/bytealg.MaxLen"], apart := false }
def CoordIdsSaid : Prop := coordIdsRow.holds Try.pinned (OpenSpec.ofChange coordIdsSpec)

/-- ITS FALSE NEIGHBOUR: 'it returns false'. Refute it at one input. -/
def coordIdsWrong : ChangeSpec := { name := "coordIds", fn := fun _ => fun
  | [d1, d2] => { results := [.lit (.bool false)], args := [d1, d2] }
  | _ => none }
def CoordIdsWrongFalsely : Prop := coordIdsRow.holds Try.pinned (OpenSpec.ofChange coordIdsWrong)

/- THE SECOND FORM. 'bulk': how many values and letters a reading holds, each counted each time it is reached (what is shared counts as often as it is met; a slice's spare places count too). A statement '..UptoSaid' is the law's where the arguments, and the package variables that the reading takes, are together of bulk at most 1048576: NARROWER than '..Said'. Prove '..Said' where nothing that the law and all that it calls make is longer than what came in: it says more and counts as full. Else prove '..UptoSaid'. A law counts once. -/
mutual
def uptoBulk {H : Type} : DataW H → Nat
  | .lit (.string bytes) => bytes.length + 1
  | .lit _ => 1
  | .nil => 1
  | .ptr d => uptoBulk d + 1
  | .slice elems spare => uptoBulkAll elems + uptoBulkAll spare + 1
  | .agg parts => uptoBulkAll parts + 1
  | .iface _ d => uptoBulk d + 1
  | .map entries => uptoBulkEntries entries + 1
  | .held _ => 1
def uptoBulkAll {H : Type} : List (DataW H) → Nat
  | [] => 0
  | d :: r => uptoBulk d + uptoBulkAll r
def uptoBulkEntries {H : Type} : List (Lit × DataW H) → Nat
  | [] => 0
  | x :: r => uptoBulkEntry x + uptoBulkEntries r
def uptoBulkEntry {H : Type} : Lit × DataW H → Nat
  | (.string bytes, d) => bytes.length + uptoBulk d + 1
  | (_, d) => uptoBulk d + 1
 end
def uptoSmall : (H : Type) → List (DataW H) → Bool := fun _ ds => decide (uptoBulkAll ds ≤ 1048576)
def OpenSpec.upto (s : _root_.Go.ChangeSpec) : _root_.Go.OpenSpec := { _root_.Go.OpenSpec.ofChange s with cond := some uptoSmall }

/-- 'newellaw09.CoordKeys', WHERE WHAT IT READS IS OF BULK AT MOST 1048576: true; the input reads as it did. -/
def coordKeysUptoRow : OpenClaim := { program := "ythmlggglemnfgaa", sum := "43d5424bb1cca54df5f9811795f7d2c2d30de9e94472dcf426412bd67f51bec6", func := "newel/newellaw09.CoordKeys", spec := "coordKeys", inPlace := ["internal/bytealg.IndexByteString", "internal/bytealg.IndexString"], unfollowed := true, recurses := true, named := ["internal/bytealg.MaxLen"], apart := false, narrowed := true }
def CoordKeysUptoSaid : Prop := coordKeysUptoRow.holds Try.pinned (OpenSpec.upto coordKeysSpec)

/-- 'newellaw09.CoordIds', WHERE WHAT IT READS IS OF BULK AT MOST 1048576: true; the input reads as it did. -/
def coordIdsUptoRow : OpenClaim := { program := "ythmlggglemnfgaa", sum := "43d5424bb1cca54df5f9811795f7d2c2d30de9e94472dcf426412bd67f51bec6", func := "newel/newellaw09.CoordIds", spec := "coordIds", inPlace := ["internal/bytealg.IndexByteString", "internal/bytealg.IndexString"], named := ["internal/bytealg.MaxLen"], apart := false, narrowed := true }
def CoordIdsUptoSaid : Prop := coordIdsUptoRow.holds Try.pinned (OpenSpec.upto coordIdsSpec)

end Rows
end Go.Proofs.Ythmlggglemnfgaa
