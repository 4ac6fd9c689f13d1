/-
  Layer 4: nodes that are laid in a row of their own; awake.
-/
import Derived.Test.YtkccockdnjjanaaMkWrite
namespace Nwl
theorem small_of {ns : List Nd} {M : Nat} (h : ∀ n ∈ ns, bulkN n ≤ M) : Small ns M := by
  intro i
  rcases Nat.lt_or_ge i ns.length with hi | hi
  · rw [nd_eq ns i hi]
    exact h _ (List.getElem_mem hi)
  · have : nd ns i = ⟨-1, [], [], []⟩ := by
      unfold nd
      rw [List.getD_eq_getElem?_getD, List.getElem?_eq_none hi]
      rfl
    rw [this]
    exact Nat.zero_le _
def awN : List Nd := [⟨-1, [97], [], []⟩, ⟨0, [], [120, 60], []⟩]
theorem awT : writeT awN = [60, 97, 62, 120, 38, 108, 116, 59, 60, 47, 97, 62] := by decide +kernel
theorem awE : writeE awN = 0 := by decide +kernel
theorem awL : (writeL awN).length ≤ 140737488355328 := by decide +kernel
theorem awS : Small awN 2000000 := small_of (by decide +kernel)
end Nwl
namespace Go.Proofs.Ytkccockdnjjanaa
open Nwl
open Go.RowKit Go.Maps
set_option linter.unusedVariables false
theorem NdiCells.length {B : Nat} {w : World} : ∀ {ts : List Nd} {cs : List Value}, NdiCells B w ts cs → cs.length = ts.length * 4
  | [], _, h => by unfold NdiCells at h; rw [h]; rfl
  | t :: ts, _, ⟨av, tl, e, h1, h2⟩ => by
    have := h2.length
    rw [e]
    simp only [List.length_append, List.length_cons, List.length_nil]
    omega
/-- nodes of a block -/
theorem NodesR.blk {B g cap : Nat} {w : World} {ns : List Nd} {cs : Array Value} (h : Blk w g 32 cs) (hB : g < B) (hc : NdiCells B w ns cs.toList) (hcap : ns.length ≤ cap) : NodesR B w (.slice (some ⟨g, 0, none⟩) ns.length cap) ns := by
  refine ⟨cs.toList, ⟨hc.length, .inr ⟨g, 0, cap, rfl, hB, hcap, fun j u hu => ?_⟩⟩, hc⟩
  rw [Nat.zero_add, h.cell j]
  simpa using hu
theorem RowR.none (B : Nat) (w : World) (size : Nat) : RowR B w (.slice none 0 0) 0 size [] := ⟨by simp, .inl ⟨⟨_, 0, rfl, fun _ => rfl⟩, rfl⟩⟩

theorem tx_app (a b : List UInt8) : tx a ++ tx b = tx (a ++ b) := by
  have h := bs_append (tx a) (tx b)
  rw [bs_tx, bs_tx] at h
  rw [← h, tx_bs]
theorem txl (l : List UInt8) : (tx l).toList = l := by rw [ByteArray.toList_eq]; rfl
theorem mEscape_b (s : ByteArray) (w : World) (r : List UInt8) (hr : escL (bs s) = r) (hs : s.size ≤ 20000000000000) :
    Calls Try.prog 7 #[.string s] w fun e w' => e = .returned (.string (tx r)) ∧ Below w.heap.size w w' := by
  subst hr
  exact mEscape_c s w hs

set_option maxRecDepth 100000 in
set_option maxHeartbeats 2000000 in
theorem awake4_c (w : World) : Calls Try.prog 4 #[] w fun e w' => e = .returned (.bool true) ∧ Below w.heap.size w w' := by
  have HB := Lib.hid (Blk.new w 32 #[.int .i64 (-1), .string ⟨#[97]⟩, .string ⟨#[]⟩, .slice none 0 0, .int .i64 0, .string ⟨#[]⟩, .string ⟨#[120, 60]⟩, .slice none 0 0])
  have hs : (w.alloc (.cells #[.int .i64 (-1), .string ⟨#[97]⟩, .string ⟨#[]⟩, .slice none 0 0, .int .i64 0, .string ⟨#[]⟩, .string ⟨#[120, 60]⟩, .slice none 0 0] 32)).heap.size = w.heap.size + 1 := by simp
  have HN : Hid (NodesR (w.heap.size + 1) (w.alloc (.cells #[.int .i64 (-1), .string ⟨#[97]⟩, .string ⟨#[]⟩, .slice none 0 0, .int .i64 0, .string ⟨#[]⟩, .string ⟨#[120, 60]⟩, .slice none 0 0] 32)) (.slice (some ⟨w.heap.size, 0, none⟩) 2 2) awN) := Lib.hid (NodesR.blk (ns := awN) HB.out (by omega) ⟨_, _, rfl, RowR.none _ _ _, _, _, rfl, RowR.none _ _ _, rfl⟩ (by decide))
  have htl := txl
  go_enter Try.func4, Try.ntmps4
  go_wp2_with fail
  refine (Write_c (w.heap.size + 1) awN _ 2 2 _ HN.out (by rw [hs]; exact Nat.le_refl _) rfl (by decide) awS awL).mono ?_
  rw [awT, awE]
  rintro e w1 ⟨rfl, hb1⟩
  have HW : Hid (Below w.heap.size w w1) := Lib.hid (((Below.refl _ _).alloc (Nat.le_refl _) _).trans (hb1.mono (by simp)))
  have hws := HW.out.size
  clear hb1
  go_wp2_with (go_at_call 7; refine (mEscape_b _ _ [38, 97, 109, 112, 59] (by decide) (by decide)).mono ?_; rintro e w2 ⟨rfl, hb2⟩; have HW2 : Hid (Below w.heap.size w w2) := Lib.hid (HW.out.trans (hb2.mono hws)); clear hb2)
  go_ret
  exact ⟨rfl, HW2.out⟩

end Go.Proofs.Ytkccockdnjjanaa
