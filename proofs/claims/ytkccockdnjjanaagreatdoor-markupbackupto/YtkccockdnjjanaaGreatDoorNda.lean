/-
  Nodes that may be read, as the document's contracts want them. newelhelp.Same over nodes: two rows that hold the same nodes are told the same.
-/
import Derived.Test.YtkccockdnjjanaaGreatDoorMtRight
import Derived.Test.YtkccockdnjjanaaGreatDoorTtSame
namespace Go.Proofs.YtkccockdnjjanaaGreatDoor
open Nwl
open Go.RowKit Go.Maps
set_option linter.unusedVariables false

/-- nodes that may be read, as the document's contracts want them -/
theorem NdRd.ofR {B : Nat} {w : World} {A : Option Addr} {n c : Nat} {ns : List Nd} (h : NodesR B w (.slice A n c) ns) (hn : n = ns.length) : NdRd B w A n ns := by
  refine ⟨hn, fun j hj => ?_⟩
  obtain ⟨b, o, A2, l2, c2, hA, hr, q1, q2, q3, q4⟩ := h.at j hj
  have hl : l2 = (ns[j]).attrs.length := by
    rcases hr.2 with ⟨⟨A0, c0, hv, _⟩, h0⟩ | ⟨b', o', c', hv, _⟩
    · injection hv with _ e2 _
      omega
    · injection hv with _ e2 _
  refine ⟨b, o, A2, l2, c2, hA, ?_, q1, q2, q3, q4, AttR.ofR hr hl⟩
  obtain ⟨cs, h1, h2⟩ := h
  rcases h1.2 with ⟨_, h0⟩ | ⟨b', o', c', hv, hb, _⟩
  · omega
  · injection hv with e1 _ _
    rw [hA] at e1
    injection e1 with e1
    injection e1 with e1 _ _
    omega
end Go.Proofs.YtkccockdnjjanaaGreatDoor

namespace Go.Proofs.YtkccockdnjjanaaGreatDoor
open Nwl
open Go.RowKit Go.Maps
set_option linter.unusedVariables false
set_option linter.unusedSimpArgs false

/-- two nodes' boxes, and what lies behind -/
def N2 (w W : World) (k : Int) (n x : ByteArray) (A1 A2 : Option Addr) (l c1 c2 : Nat) : Prop := Blk W w.heap.size 32 #[.int .i64 k, .string n, .string x, .slice A1 l c1] ∧ Blk W (w.heap.size + 1) 32 #[.int .i64 k, .string n, .string x, .slice A2 l c2] ∧ Below w.heap.size w W
theorem N2.new (w : World) (k : Int) (n x : ByteArray) (A1 A2 : Option Addr) (l c1 c2 : Nat) : N2 w ((w.alloc (.cells #[.int .i64 k, .string n, .string x, .slice A1 l c1] 32)).alloc (.cells #[.int .i64 k, .string n, .string x, .slice A2 l c2] 32)) k n x A1 A2 l c1 c2 := by
  have h2 := Blk.new (w.alloc (.cells #[.int .i64 k, .string n, .string x, .slice A1 l c1] 32)) 32 #[.int .i64 k, .string n, .string x, .slice A2 l c2]
  have z1 : (w.alloc (.cells #[.int .i64 k, .string n, .string x, .slice A1 l c1] 32)).heap.size = w.heap.size + 1 := by simp
  rw [z1] at h2
  exact ⟨(Blk.new w _ _).alloc _, h2, ((Below.refl _ _).alloc (Nat.le_refl _) _).alloc (by omega) _⟩
theorem N2.below {w W W' : World} {k : Int} {n x : ByteArray} {A1 A2 : Option Addr} {l c1 c2 : Nat} (h : N2 w W k n x A1 A2 l c1 c2) (hb : Below W.heap.size W W') : N2 w W' k n x A1 A2 l c1 c2 := ⟨h.1.below hb, h.2.1.below hb, h.2.2.trans (hb.mono h.2.2.size)⟩
theorem N2.rd {w W : World} {k : Int} {n x : ByteArray} {A1 A2 : Option Addr} {l c1 c2 : Nat} (h : N2 w W k n x A1 A2 l c1 c2) : W.cell? ⟨w.heap.size, 0, none⟩ = some (.int .i64 k) ∧ W.cell? ⟨w.heap.size, 1, none⟩ = some (.string n) ∧ W.cell? ⟨w.heap.size, 2, none⟩ = some (.string x) ∧ W.cell? ⟨w.heap.size, 3, none⟩ = some (.slice A1 l c1) ∧ W.cell? ⟨w.heap.size + 1, 0, none⟩ = some (.int .i64 k) ∧ W.cell? ⟨w.heap.size + 1, 1, none⟩ = some (.string n) ∧ W.cell? ⟨w.heap.size + 1, 2, none⟩ = some (.string x) ∧ W.cell? ⟨w.heap.size + 1, 3, none⟩ = some (.slice A2 l c2) :=
  ⟨h.1.cell 0, h.1.cell 1, h.1.cell 2, h.1.cell 3, h.2.1.cell 0, h.2.1.cell 1, h.2.1.cell 2, h.2.1.cell 3⟩
set_option maxRecDepth 100000 in
set_option maxHeartbeats 2000000 in
theorem HNode_c (k : Int) (n x : ByteArray) (as' : List (List UInt8 × List UInt8)) (A1 A2 : Option Addr) (l c1 c2 : Nat) (w : World) (B : Nat) (hB : B ≤ w.heap.size) (hn : l ≤ 100000) (h1 : AttR B w A1 l as') (h2 : AttR B w A2 l as') :
    Calls Tryz.prog 12 #[.agg #[.int .i64 k, .string n, .string x, .slice A1 l c1], .agg #[.int .i64 k, .string n, .string x, .slice A2 l c2]] w fun e w' => e = .returned (.bool true) ∧ Hid (Below w.heap.size w w') := by
  have X0 := Lib.hid (N2.new w k n x A1 A2 l c1 c2)
  have HA := Lib.hid (h1.below (X0.out.2.2.mono hB))
  have HB := Lib.hid (h2.below (X0.out.2.2.mono hB))
  clear h1 h2
  obtain ⟨w1, hw1⟩ : ∃ w1, (w.alloc (.cells #[.int .i64 k, .string n, .string x, .slice A1 l c1] 32)).alloc (.cells #[.int .i64 k, .string n, .string x, .slice A2 l c2] 32) = w1 := ⟨_, rfl⟩
  go_enter Tryz.func12, Tryz.ntmps12
  go_upto_region 1 with fail
  rw [hw1] at X0 HA HB
  clear hw1
  obtain ⟨z0, z1, z2, z3, z4, z5, z6, z7⟩ := N2.rd X0.out
  go_wp2_with fail
  refine (PlainA_r A1 A2 l c1 c2 as' _ B (Nat.le_trans hB X0.out.2.2.size) hn HA.out HB.out).mono ?_
  rintro e w2 ⟨rfl, b2⟩
  have X2 := Lib.hid (X0.out.below b2.out)
  clear b2 X0 z0 z1 z2 z3 z4 z5 z6 z7
  obtain ⟨z0, z1, z2, z3, z4, z5, z6, z7⟩ := N2.rd X2.out
  go_wp2_with fail
  go_ret
  exact ⟨rfl, Lib.hid X2.out.2.2⟩

set_option maxRecDepth 100000 in
set_option maxHeartbeats 4000000 in
theorem SameN_r (A1 A2 : Option Addr) (n c1 c2 : Nat) (ns : List Nd) (w : World) (B : Nat) (hB : B ≤ w.heap.size) (hn : n ≤ 100000) (ha : ∀ t ∈ ns, t.attrs.length ≤ 100000) (h1 : NdRd B w A1 n ns) (h2 : NdRd B w A2 n ns) :
    Calls Tryz.prog 11 #[.slice A1 n c1, .slice A2 n c2, .func (.func 12) #[] #[]] w fun e w' => e = .returned (.bool true) ∧ Hid (Below w.heap.size w w') := by
  have HA := Lib.hid h1
  have HB := Lib.hid h2
  have HL := Lib.hid h1.1
  clear h1 h2
  go_enter Tryz.func11, Tryz.ntmps11
  go_wp2_with fail
  go_loopw [7] (fun i wr => ∃ k : Nat, k ≤ n ∧ i = .int .i64 k ∧ Hid (Below w.heap.size w wr)) (fun i _ => n - (intOf i).toNat)
  case atStart => exact ⟨0, Nat.zero_le _, rfl, Below.refl _ _⟩
  case round =>
    obtain ⟨k, hk, rfl, hh⟩ := hrel
    by_cases hlt : k < n
    · have hkl : k < ns.length := by have := HL.out; omega
      obtain ⟨b1, o1, P1, l1, e1, rfl, z1, p0, p1, p2, p3, R1⟩ := HA.out.2 k hkl
      obtain ⟨b2, o2, P2, l2, e2, rfl, z2, q0, q1, q2, q3, R2⟩ := HB.out.2 k hkl
      have hm : ns[k]'hkl ∈ ns := List.getElem_mem hkl
      have HH := Lib.hid hh.out
      have hll := ha _ hm
      generalize ns[k]'hkl = t at p0 p1 p2 q0 q1 q2 R1 R2 hll hm
      obtain ⟨kk, nm, tt, at1⟩ := t
      dsimp only at p0 p1 p2 q0 q1 q2 R1 R2 hll
      obtain ⟨N, hN⟩ : ∃ N, tx nm = N := ⟨_, rfl⟩
      obtain ⟨X, hX⟩ : ∃ X, tx tt = X := ⟨_, rfl⟩
      rw [hN] at p1 q1
      rw [hX] at p2 q2
      obtain rfl : l1 = l2 := by rw [R1.1, R2.1]
      have hl1 : l1 ≤ 100000 := by rw [R1.1]; exact hll
      have up : ∀ (b i : Nat) (u : Value), b < B → w.cell? ⟨b, i, none⟩ = some u → wr.cell? ⟨b, i, none⟩ = some u := fun b i u hb h => (HH.out.cell (p := ⟨b, i, none⟩) (by show b < _; omega)).trans h
      have p0' := up _ _ _ z1 p0
      have p1' := up _ _ _ z1 p1
      have p2' := up _ _ _ z1 p2
      have p3' := up _ _ _ z1 p3
      have q0' := up _ _ _ z2 q0
      have q1' := up _ _ _ z2 q1
      have q2' := up _ _ _ z2 q2
      have q3' := up _ _ _ z2 q3
      have S1 := Lib.hid (R1.below (HH.out.mono hB))
      have S2 := Lib.hid (R2.below (HH.out.mono hB))
      have hBr : B ≤ wr.heap.size := Nat.le_trans hB HH.out.size
      clear up p0 p1 p2 p3 q0 q1 q2 q3 R1 R2 hN hX hm hll ha HA HB
      go_upto_region 6 with fail
      go_region_held3 (fun w' => w'.cell? ⟨b1, o1 + k * 4, none⟩ = some (.int .i64 kk) ∧ w'.cell? ⟨b1, o1 + k * 4 + 1, none⟩ = some (.string N) ∧ w'.cell? ⟨b1, o1 + k * 4 + 2, none⟩ = some (.string X) ∧ w'.cell? ⟨b1, o1 + k * 4 + 3, none⟩ = some (.slice P1 l1 e1) ∧ w'.cell? ⟨b2, o2 + k * 4, none⟩ = some (.int .i64 kk) ∧ w'.cell? ⟨b2, o2 + k * 4 + 1, none⟩ = some (.string N) ∧ w'.cell? ⟨b2, o2 + k * 4 + 2, none⟩ = some (.string X) ∧ w'.cell? ⟨b2, o2 + k * 4 + 3, none⟩ = some (.slice P2 l1 e2)) (first | exact ⟨p0', p1', p2', p3', q0', q1', q2', q3'⟩ | exact ⟨(hb2.out.cell (cell_below p0')).trans p0', (hb2.out.cell (cell_below p1')).trans p1', (hb2.out.cell (cell_below p2')).trans p2', (hb2.out.cell (cell_below p3')).trans p3', (hb2.out.cell (cell_below q0')).trans q0', (hb2.out.cell (cell_below q1')).trans q1', (hb2.out.cell (cell_below q2')).trans q2', (hb2.out.cell (cell_below q3')).trans q3'⟩ | fail) (first | (go_at_call 12; refine (HNode_c kk N X at1 P1 P2 l1 e1 e2 wr.drew B hBr hl1 S1.out S2.out).mono ?_; rintro e w2 ⟨rfl, hb2⟩))
      have HB2 : Hid (Below w.heap.size w w2) := Lib.hid (HH.out.drew.trans (hb2.out.mono HH.out.size))
      rename_i hheld
      clear hheld
      go_wp2_with fail
      go_roundw
      case rel => exact ⟨k + 1, by omega, by go_num, HB2.out⟩
      case measure => simp [intOf]; omega
    · go_wp2_with fail
      go_ret
      exact ⟨rfl, hh⟩
end Go.Proofs.YtkccockdnjjanaaGreatDoor
