/-
  Plain facts on entities and tokens (layer 2): what a text is, piece by piece; nothing of the program.
-/
import Derived.Test.YtbpcoiblddhnjaaDoorChMath
import Derived.Lib.IndexMore
import Derived.Lib.RuneBytes
namespace Nwl
open Go (Lib.cut Lib.index Lib.contains Lib.hasPrefix Lib.encodeRune)

/-- the number of a digit -/
def digV (base : Nat) (c : UInt8) : Option Nat :=
  if digitI c.toNat then some (c.toNat - 48)
  else if base = 16 ∧ 97 ≤ c.toNat ∧ c.toNat ≤ 102 then some (c.toNat - 87)
  else if base = 16 ∧ 65 ≤ c.toNat ∧ c.toNat ≤ 70 then some (c.toNat - 55)
  else none
/-- the number of some digits, behind others -/
def valF (base : Nat) : Nat → List UInt8 → Option Nat
  | v, [] => some v
  | v, c :: r => match digV base c with
    | none => none
    | some d => valF base (v * base + d) r
def mayI (v : Int) : Bool := decide (v ≤ 1114111) && (decide (v < 55296) || decide (57343 < v)) && (decide (32 ≤ v) || v == 9 || v == 10 || v == 13)
def numL (base : Nat) (l : List UInt8) : Option Nat :=
  if l = [] ∨ 6 < l.length then none else match valF base 0 l with
    | none => none
    | some v => if mayI v then some v else none
/-- the character of what stands between "&" and ";" -/
def charL (b : List UInt8) : Option Nat :=
  if b = [108, 116] then some 60
  else if b = [103, 116] then some 62
  else if b = [97, 109, 112] then some 38
  else if b = [113, 117, 111, 116] then some 34
  else if b = [97, 112, 111, 115] then some 39
  else if Go.Lib.hasPrefix b [35, 120] then numL 16 (b.drop 2)
  else if Go.Lib.hasPrefix b [35] then numL 10 (b.drop 1)
  else none

/-- what is ahead of the first such text, and what is behind it -/
def cutL (sep l : List UInt8) : Option (List UInt8 × List UInt8) :=
  if 0 ≤ Go.Lib.index l sep then some (l.take (Go.Lib.index l sep).toNat, l.drop ((Go.Lib.index l sep).toNat + sep.length)) else none

def entF : Nat → List UInt8 → Option (List UInt8)
  | _, [] => some []
  | 0, _ :: _ => none
  | n + 1, c :: r =>
    if c = 38 then
      match cutL [59] r with
      | none => none
      | some (b, rest) => match charL b with
        | none => none
        | some v => (entF n rest).map (Go.Lib.encodeRune v ++ ·)
    else (entF n r).map (c :: ·)
/-- a text with its entities -/
def entL (l : List UInt8) : Option (List UInt8) := entF l.length l

structure Tok where
  kind : Nat
  name : List UInt8
  text : List UInt8
  attrs : List (List UInt8 × List UInt8)
  empty : Bool
  deriving DecidableEq

def skipL (l : List UInt8) : List UInt8 := l.dropWhile space8
def nameP (l : List UInt8) : List UInt8 × List UInt8 :=
  match l with
  | [] => ([], [])
  | c :: r => if beginI c.toNat then ((c :: r).takeWhile within8, (c :: r).dropWhile within8) else ([], c :: r)
def valueL (l : List UInt8) : Option (List UInt8 × List UInt8) :=
  match l with
  | [] => none
  | c :: r => if c = 34 ∨ c = 39 then
      match cutL [c] r with
      | none => none
      | some (raw, rest) => if raw.contains 60 then none else (entL raw).map (·, rest)
    else none
def attrL (l : List UInt8) : Option ((List UInt8 × List UInt8) × List UInt8) :=
  if (nameP l).1 = [] then none else
  match skipL (nameP l).2 with
  | [] => none
  | c :: r => if c = 61 then (valueL (skipL r)).map fun (v, rest) => (((nameP l).1, v), rest) else none
def attrsF : Nat → List (List UInt8 × List UInt8) → List UInt8 → Option (List (List UInt8 × List UInt8) × Bool × List UInt8)
  | 0, _, _ => none
  | n + 1, acc, l =>
    if Go.Lib.hasPrefix (skipL l) [62] then some (acc, false, (skipL l).drop 1)
    else if Go.Lib.hasPrefix (skipL l) [47, 62] then some (acc, true, (skipL l).drop 2)
    else if (skipL l).length = l.length then none
    else match attrL (skipL l) with
      | none => none
      | some (a, rest) => if (acc.map (·.1)).contains a.1 then none else attrsF n (acc ++ [a]) rest
/-- a beginning, behind its "<" -/
def openL (l : List UInt8) : Option (Tok × List UInt8) :=
  if (nameP l).1 = [] then none else
  (attrsF ((nameP l).2.length + 1) [] (nameP l).2).map fun (a, e, rest) => (⟨1, (nameP l).1, [], a, e⟩, rest)
def closeL (l : List UInt8) : Option (Tok × List UInt8) :=
  if (nameP l).1 = [] then none else
  if Go.Lib.hasPrefix (skipL (nameP l).2) [62] then some (⟨2, (nameP l).1, [], [], false⟩, (skipL (nameP l).2).drop 1) else none
def commentL (l : List UInt8) : Option (Tok × List UInt8) :=
  match cutL [45, 45, 62] l with
  | none => none
  | some (x, rest) => if Go.Lib.contains (x ++ [45]) [45, 45] then none else some (⟨4, [], x, [], false⟩, rest)
def textL (l : List UInt8) : Option (Tok × List UInt8) :=
  (entL (l.takeWhile (· != 60))).map fun x => (⟨3, [], x, [], false⟩, l.dropWhile (· != 60))
/-- one token -/
def tokL (first : Bool) (l : List UInt8) : Option (Tok × List UInt8) :=
  if Go.Lib.hasPrefix l [60, 33, 45, 45] then commentL (l.drop 4)
  else if Go.Lib.hasPrefix l [60, 33, 91, 67, 68, 65, 84, 65, 91] then (cutL [93, 93, 62] (l.drop 9)).map fun (x, rest) => (⟨3, [], x, [], false⟩, rest)
  else if Go.Lib.hasPrefix l [60, 63] then if first then (cutL [63, 62] (l.drop 2)).map fun (x, rest) => (⟨5, [], x, [], false⟩, rest) else none
  else if Go.Lib.hasPrefix l [60, 47] then closeL (l.drop 2)
  else if Go.Lib.hasPrefix l [60] then openL (l.drop 1)
  else textL l
def splitF : Nat → Bool → List UInt8 → Option (List Tok)
  | _, _, [] => some []
  | 0, _, _ :: _ => none
  | n + 1, first, c :: r => match tokL first (c :: r) with
    | none => none
    | some (t, rest) => (splitF n false rest).map (t :: ·)
/-- all tokens -/
def splitL (l : List UInt8) : Option (List Tok) := splitF l.length true l

example : splitL [60, 97, 62, 120, 60, 47, 97, 62] = some [⟨1, [97], [], [], false⟩, ⟨3, [], [120], [], false⟩, ⟨2, [97], [], [], false⟩] := by decide +kernel
example : splitL "<a b = \"c\" >x&amp;&#65;<!-- a - b --></a>".toUTF8.data.toList = some [⟨1, [97], [], [([98], [99])], false⟩, ⟨3, [], [120, 38, 65], [], false⟩, ⟨4, [], " a - b ".toUTF8.data.toList, [], false⟩, ⟨2, [97], [], [], false⟩] := by decide +kernel

end Nwl
