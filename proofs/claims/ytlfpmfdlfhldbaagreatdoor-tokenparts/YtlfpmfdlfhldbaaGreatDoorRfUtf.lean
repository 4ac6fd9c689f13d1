/-
  The document's own answers (layer 2): a character's bytes, by its number.
-/
import Derived.Test.YtlfpmfdlfhldbaaGreatDoorRfFind
namespace Go.Proofs.YtlfpmfdlfhldbaaGreatDoor
open Nwl
open Go.RowKit Go.Maps
set_option linter.unusedVariables false

theorem addr0r (b j : Nat) : (⟨b, 0, none⟩ : Addr).add j = ⟨b, j, none⟩ := by
  unfold Addr.add
  by_cases h : j = 0 <;> simp [h]
/-- new cells of bytes, as a text -/
theorem cells_text (w : World) (l : List UInt8) (cs : Array Value) (n : Nat) (hc : cs.toList = Lib.byteCells l) (hn : l.length = n) : (convert 45 9 (.slice (some ⟨w.heap.size, 0, none⟩) n n)).run Tryz.prog (w.alloc (.cells cs 5)) = .ok (.string (tx l)) (w.alloc (.cells cs 5)) := by
  subst hn
  refine run_convert_bytes_back (P := Tryz.prog) _ 45 9 5 ⟨w.heap.size, 0, none⟩ l.length l Tryz.underlying45 Tryz.underlying5 Tryz.underlying9 (fun j hj => ?_)
  rw [addr0r, (Blk.new w 5 cs).cell j, ← Array.getElem?_toList, hc]
  simp [Lib.byteCells, hj]
theorem rune_text (w : World) (v : Int) (l : List Int) (n : Nat) (h : Lib.encodeRuneZ v = l) (hn : l.length = n) : (convert 45 9 (.slice (some ⟨w.heap.size, 0, none⟩) n n)).run Tryz.prog (w.alloc (.cells (l.map (Value.int .u8)).toArray 5)) = .ok (.string (tx (Lib.encodeRune v))) (w.alloc (.cells (l.map (Value.int .u8)).toArray 5)) :=
  cells_text w (Lib.encodeRune v) _ n (by rw [Lib.byteCells_encodeRune]; unfold Lib.runeCells; rw [h]) (by unfold Lib.encodeRune; rw [List.length_map, h]; exact hn)

set_option maxRecDepth 100000 in
set_option maxHeartbeats 1000000 in
theorem utf_c (v : Int) (w : World) (h0 : 0 ≤ v) (h1 : v ≤ 1114111) (h2 : v < 55296 ∨ 57343 < v) :
    Calls Tryz.prog 64 #[.int .i64 v] w fun e w' => e = .returned (.string (tx (Lib.encodeRune v))) ∧ Below w.heap.size w w' := by
  by_cases a1 : v < 128
  · have hconv := rune_text w v [v] 1 (Lib.encodeRuneZ_one h0 (by omega)) rfl
    simp only [List.map_cons, List.map_nil] at hconv
    go_enter Tryz.func64, Tryz.ntmps64
    go_wp2_with fail
    go_ret
    exact ⟨rfl, (Below.refl _ _).alloc (Nat.le_refl _) _⟩
  by_cases a2 : v < 2048
  · have hconv := rune_text w v _ 2 (Lib.encodeRuneZ_two (by omega) (by omega)) rfl
    simp only [List.map_cons, List.map_nil] at hconv
    clear h2
    go_enter Tryz.func64, Tryz.ntmps64
    go_wp2_with fail
    go_ret
    exact ⟨rfl, (Below.refl _ _).alloc (Nat.le_refl _) _⟩
  by_cases a3 : v < 65536
  · have hconv := rune_text w v _ 3 (Lib.encodeRuneZ_three (by omega)) rfl
    simp only [List.map_cons, List.map_nil] at hconv
    clear h2
    go_enter Tryz.func64, Tryz.ntmps64
    go_wp2_with fail
    go_ret
    exact ⟨rfl, (Below.refl _ _).alloc (Nat.le_refl _) _⟩
  · have hconv := rune_text w v _ 4 (Lib.encodeRuneZ_four (by omega) (by omega)) rfl
    simp only [List.map_cons, List.map_nil] at hconv
    clear h2
    go_enter Tryz.func64, Tryz.ntmps64
    go_wp2_with fail
    go_ret
    exact ⟨rfl, (Below.refl _ _).alloc (Nat.le_refl _) _⟩
end Go.Proofs.YtlfpmfdlfhldbaaGreatDoor
