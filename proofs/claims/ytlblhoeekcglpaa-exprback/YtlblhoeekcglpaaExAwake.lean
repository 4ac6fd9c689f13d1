/-
  What a program that does nothing does not answer (layer 10).
-/
import Derived.Test.YtlblhoeekcglpaaExOwn
import Derived.Test.YtlblhoeekcglpaaExRefS
namespace Go.Proofs.Ytlblhoeekcglpaa
open Nwl
open Go.RowKit Go.Maps
set_option linter.unusedVariables false
set_option linter.unusedSimpArgs false

theorem split_awake : splitX [97, 36, 123, 98, 125] = some [⟨false, [97]⟩, ⟨true, [98]⟩] := by decide
theorem pcs_new (w : World) (p q : Pc) : PcR (w.alloc (.cells #[.bool p.nm, .string (tx p.t), .bool q.nm, .string (tx q.t)] 29)).heap.size (w.alloc (.cells #[.bool p.nm, .string (tx p.t), .bool q.nm, .string (tx q.t)] 29)) (some ⟨w.heap.size, 0, none⟩) 2 [p, q] := by
  have hk := Blk.new w 29 #[.bool p.nm, .string (tx p.t), .bool q.nm, .string (tx q.t)]
  refine ⟨rfl, fun j hj => ⟨w.heap.size, 0, rfl, hk.lt, ?_⟩⟩
  have : j = 0 ∨ j = 1 := by
    simp at hj
    omega
  rcases this with rfl | rfl
  · exact ⟨hk.cell 0, hk.cell 1⟩
  · exact ⟨hk.cell 2, hk.cell 3⟩
theorem pc_new (w : World) (p : Pc) : PcR (w.alloc (.cells #[.bool p.nm, .string (tx p.t)] 29)).heap.size (w.alloc (.cells #[.bool p.nm, .string (tx p.t)] 29)) (some ⟨w.heap.size, 0, none⟩) 1 [p] := by
  have hk := Blk.new w 29 #[.bool p.nm, .string (tx p.t)]
  refine ⟨rfl, fun j hj => ⟨w.heap.size, 0, rfl, hk.lt, ?_⟩⟩
  obtain rfl : j = 0 := by simpa using hj
  exact ⟨hk.cell 0, hk.cell 1⟩

set_option maxRecDepth 100000 in
set_option maxHeartbeats 4000000 in
theorem awake10_c (w : World) (hg : GlobE w) :
    Calls Try.prog 7 #[] w fun e w' => e = .returned (.bool true) ∧ Hid (Below w.heap.size w w') := by
  have HG := Lib.hid hg
  clear hg
  go_enter Try.func7, Try.ntmps7
  go_wp2_with fail
  refine (ESplit_c [97, 36, 123, 98, 125] _ (by decide) HG.out).mono ?_
  intro e w1 hp
  unfold ExPost at hp
  rw [split_awake] at hp
  obtain ⟨A, c, rfl, ho, hb⟩ := hp
  have HO := Lib.hid ho.r
  have HB := Lib.hid hb
  clear ho hb
  obtain ⟨w2, hw2⟩ : ∃ w2, w1.alloc (.cells #[.bool false, .string ⟨#[97]⟩, .bool true, .string ⟨#[98]⟩] 29) = w2 := ⟨_, rfl⟩
  have HN : Hid (PcR w2.heap.size w2 (some ⟨w1.heap.size, 0, none⟩) 2 [⟨false, [97]⟩, ⟨true, [98]⟩] ∧ Below w1.heap.size w1 w2) := Lib.hid (by
    rw [← hw2]
    exact ⟨pcs_new w1 ⟨false, [97]⟩ ⟨true, [98]⟩, (Below.refl _ _).alloc (Nat.le_refl _) _⟩)
  have HO2 := Lib.hid (HO.out.on HN.out.2)
  go_wp2_with fail
  refine (PPlain_c A (some ⟨w1.heap.size, 0, none⟩) 2 2 c 2 [⟨false, [97]⟩, ⟨true, [98]⟩] [⟨false, [97]⟩, ⟨true, [98]⟩] w2 HO2.out HN.out.1 (by decide) (by decide) true (by simp)).mono ?_
  rintro e w3 ⟨rfl, b3⟩
  have HB3 := Lib.hid ((HB.out.trans (HN.out.2.mono HB.out.size)).trans (b3.out.mono (Nat.le_trans HB.out.size HN.out.2.size)))
  clear hw2
  go_wp2_with fail
  refine (EHas_c [36, 123] _ (by decide) (HG.out.below HB3.out) true rfl).mono ?_
  rintro e w4 ⟨rfl, rfl⟩
  go_wp2_with fail
  go_ret
  exact ⟨rfl, HB3⟩
end Go.Proofs.Ytlblhoeekcglpaa
