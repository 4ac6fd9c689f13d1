/-
  The document's own answers (layers 3, 4): the kids of a node.
-/
import Derived.Test.YtkccockdnjjanaaMtRight
import Derived.Test.YtkccockdnjjanaaMtWriteM
import Derived.Test.YtkccockdnjjanaaGnIntO
import Derived.Test.YtkccockdnjjanaaGnBytes
import Derived.Deep.CutRange
namespace Nwl
theorem kidsA_len (ns : List Nd) (i : Int) (k : Nat) : (kidsA ns i k).length ≤ k := by
  unfold kidsA
  refine Nat.le_trans (List.length_filter_le _ _) ?_
  rw [List.length_range]
  exact Nat.le_refl _
/-- the kids of whatever place -/
def kidsX (ns : List Nd) (i : Int) : List Nat := if 0 ≤ i ∧ i < ns.length then kidsN ns i else []
end Nwl
namespace Go.Proofs.Ytkccockdnjjanaa
open Nwl
open Go.RowKit Go.Maps
set_option linter.unusedVariables false
set_option linter.unusedSimpArgs false

/-- where Kids stands -/
def KdAt (w wr : World) (ns : List Nd) (i : Int) (k : Nat) (A : Option Addr) (m c : Nat) : Prop := IoO w.heap.size wr A m c (kidsA ns i k) ∧ Below w.heap.size w wr
def KidPost (ns : List Nd) (i : Int) (w : World) (e : Ending) (w' : World) : Prop := ∃ (A : Option Addr) (c : Nat), e = .returned (.slice A (kidsX ns i).length c) ∧ IoO w.heap.size w' A (kidsX ns i).length c (kidsX ns i) ∧ Below w.heap.size w w'
theorem kidPost_in {ns : List Nd} {i : Int} {w w' : World} {e : Ending} {A : Option Addr} {m c n : Nat} (hin : 0 ≤ i ∧ i < ns.length) (hn : n = ns.length) (he : e = .returned (.slice A m c)) (hk : KdAt w w' ns i n A m c) : KidPost ns i w e w' := by
  unfold KidPost
  have hx : kidsX ns i = kidsA ns i ns.length := by unfold kidsX; rw [if_pos hin, kidsN_A]
  rw [hx]
  obtain ⟨h1, h2⟩ := hk
  subst hn
  obtain rfl := h1.1
  exact ⟨A, c, he, h1, h2⟩
theorem kidPost_out {ns : List Nd} {i : Int} {w w' : World} {e : Ending} (hin : ¬ (0 ≤ i ∧ i < ns.length)) (he : e = .returned (.slice none 0 0)) (hb : Below w.heap.size w w') : KidPost ns i w e w' := by
  unfold KidPost
  have hx : kidsX ns i = [] := by unfold kidsX; rw [if_neg hin]
  rw [hx]
  exact ⟨none, 0, he, IoO.nil _ _, hb⟩

set_option maxRecDepth 100000 in
set_option maxHeartbeats 4000000 in
theorem rKids_c (ns : List Nd) (A : Option Addr) (n c : Nat) (i : Int) (w : World) (h : NdRd w.heap.size w A n ns) (hn : n ≤ 1000000000) :
    Calls Try.prog 25 #[.slice A n c, .int .i64 i] w (KidPost ns i w) := by
  have H := Lib.hid h
  have HN : Hid (n = ns.length) := Lib.hid h.1
  clear h
  by_cases hin : 0 ≤ i ∧ i < ns.length
  · have HIN := Lib.hid hin
    have i0 : (0 : Int) ≤ i := hin.1
    have i1 : i < (n : Int) := by have := HN.out; omega
    clear hin
    go_enter Try.func25, Try.ntmps25
    go_wp2_with fail
    go_loopw [5, 6] (fun ov kv wr => ∃ (k m c2 : Nat) (A2 : Option Addr), k ≤ n ∧ kv = .int .i64 k ∧ ov = .slice A2 m c2 ∧ m ≤ k ∧ Hid (KdAt w wr ns i k A2 m c2)) (fun _ kv _ => n - (intOf kv).toNat)
    case atStart => exact ⟨0, 0, 0, none, Nat.zero_le _, rfl, rfl, Nat.le_refl _, Lib.hid ⟨IoO.nil _ _, Below.refl _ _⟩⟩
    case round =>
      obtain ⟨k, m, c2, A2, hk, rfl, rfl, hmk, hh⟩ := hrel
      by_cases hlt : k < n
      · have hltI : (k : Int) < (n : Int) := by omega
        have hkl : k < ns.length := by have := HN.out; omega
        obtain ⟨b, o, A', l', c', rfl, hb, q1, -⟩ := H.out.2 k hkl
        obtain ⟨p, hp⟩ : ∃ p, (ns[k]'hkl).parent = p := ⟨_, rfl⟩
        rw [hp] at q1
        have r1 : wr.cell? ⟨b, o + k * 4, none⟩ = some (.int .i64 p) := (hh.out.2.cell (p := ⟨b, o + k * 4, none⟩) hb).trans q1
        have HP : Hid (parAt ns k = p) := Lib.hid (by
          show (nd ns (k : Int).toNat).parent = p
          rw [Int.toNat_natCast, nd_eq ns k hkl, hp])
        have hw1 : IntKind.i64.wrap ((k : Int) + 1) = (k : Int) + 1 := by
          simp [IntKind.wrap, IntKind.bits, IntKind.signed]
          omega
        have hBs := hh.out.2.size
        clear q1 hp
        by_cases hpi : p = i
        · obtain ⟨A3, c3, W3, hrun, ho3, hb3⟩ := io_snoc hh.out.1 hBs k (by omega)
          have HRUN := Lib.hid hrun
          have HNX : Hid (KdAt w W3 ns i (k + 1) A3 (m + 1) c3) := Lib.hid ⟨by rw [kidsA_succ, if_pos (by rw [HP.out]; exact hpi)]; exact ho3, hh.out.2.trans hb3⟩
          have hpi2 : (p == i) = true := by rw [beq_iff_eq]; exact hpi
          have hpi3 : decide (p = i) = true := decide_eq_true hpi
          clear hrun ho3 hb3 hh hpi
          go_wp2_with (at_builtin; refine wpl_app2 rfl _ _ _ _ rfl _ _ _ rfl rfl HRUN.out ?_)
          go_roundw
          case rel => exact ⟨k + 1, m + 1, c3, A3, by omega, by go_num, rfl, by omega, HNX⟩
          case measure => simp [intOf]; omega
        · have HNX : Hid (KdAt w wr ns i (k + 1) A2 m c2) := Lib.hid ⟨by rw [kidsA_succ, if_neg (by rw [HP.out]; exact hpi)]; exact hh.out.1, hh.out.2⟩
          have hpi2 : (p == i) = false := by rw [beq_eq_false_iff_ne]; exact hpi
          have hpi3 : decide (p = i) = false := decide_eq_false hpi
          clear hh hpi
          go_wp2_with fail
          go_roundw
          case rel => exact ⟨k + 1, m, c2, A2, by omega, by go_num, rfl, by omega, HNX⟩
          case measure => simp [intOf]; omega
      · obtain rfl : k = n := by omega
        go_wp2_with fail
        go_ret
        exact kidPost_in HIN.out HN.out rfl hh.out
  · have HIN := Lib.hid hin
    have hcase : n = 0 ∨ (0 < n ∧ ¬ 0 ≤ i) ∨ (0 < n ∧ 0 ≤ i ∧ ¬ i < (n : Int)) := by have := HN.out; omega
    clear hin
    go_enter Try.func25, Try.ntmps25
    go_wp2_with fail
    go_loopw [5, 6] (fun ov kv wr => ov = .slice none 0 0 ∧ kv = .int .i64 0 ∧ w = wr) (fun _ _ _ => 0)
    case atStart => exact ⟨rfl, rfl, rfl⟩
    case round =>
      obtain ⟨rfl, rfl, rfl⟩ := hrel
      rcases hcase with h0 | ⟨h0, h1⟩ | ⟨h0, h1, h2⟩
      · subst h0
        go_wp2_with fail
        go_ret
        exact kidPost_out HIN.out rfl (Below.refl _ _)
      · have hd : (0 : Int) < (n : Int) := by omega
        go_wp2_with fail
        go_ret
        exact kidPost_out HIN.out rfl (Below.refl _ _)
      · have hd : (0 : Int) < (n : Int) := by omega
        go_wp2_with fail
        go_ret
        exact kidPost_out HIN.out rfl (Below.refl _ _)
end Go.Proofs.Ytkccockdnjjanaa
