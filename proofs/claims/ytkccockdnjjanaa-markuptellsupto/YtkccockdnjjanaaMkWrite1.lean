/-
  Layer 4: the writer's calls: write, hasKids.
-/
import Derived.Test.YtkccockdnjjanaaMkBuild
import Derived.Test.YtkccockdnjjanaaMkRight
namespace Nwl
theorem kidsB_no {ns : List Nd} {i : Nat} (h : ¬ i + 1 < ns.length) : kidsB ns i = false := by unfold kidsB; rw [decide_eq_false h]; rfl
theorem kidsB_yes {ns : List Nd} {i : Nat} (h : i + 1 < ns.length) : kidsB ns i = decide (parAt ns (i + 1 : Nat) = i) := by unfold kidsB; rw [decide_eq_true h]; rfl
theorem flat_take (ps : List (List UInt8)) (j : Nat) (h : j < ps.length) : (ps.take (j + 1)).flatten = (ps.take j).flatten ++ ps[j] := by
  rw [List.take_succ_eq_append_getElem h, List.flatten_append]
  simp
theorem flat_take_len (ps : List (List UInt8)) (j : Nat) (h : j < ps.length) : (ps.take j).flatten.length + (ps[j]).length ≤ ps.flatten.length := by
  have e : ps.flatten = (ps.take (j + 1)).flatten ++ (ps.drop (j + 1)).flatten := by rw [← List.flatten_append, List.take_append_drop]
  rw [e, flat_take ps j h]
  simp only [List.length_append]
  omega
end Nwl
namespace Go.Proofs.Ytkccockdnjjanaa
open Nwl
open Go.RowKit Go.Maps
set_option linter.unusedVariables false
/-- pieces as cells -/
def pcs (ps : List (List UInt8)) : Array Value := (ps.map fun p => Value.string (tx p)).toArray
theorem pcs_at (ps : List (List UInt8)) (j : Nat) (h : j < ps.length) : (pcs ps)[j]? = some (.string (tx ps[j])) := by
  unfold pcs
  rw [List.getElem?_toArray, List.getElem?_map, List.getElem?_eq_getElem h]
  rfl
/-- where the writing of pieces stands -/
def PcAt (B b g : Nat) (vn vo : Value) (run : List UInt8) (ps : List (List UInt8)) (w : World) (j : Nat) (w' : World) : Prop :=
  (∃ p vb, WrV B b vn vo p vb (run ++ (ps.take j).flatten) w') ∧ Below B w w' ∧ Keep w w' ∧ Blk w' g 9 (pcs ps)

set_option maxRecDepth 100000 in
set_option maxHeartbeats 2000000 in
theorem write_c (B b g c n : Nat) (vn vo p vb : Value) (run : List UInt8) (ps : List (List UInt8)) (w : World) (h : WrV B b vn vo p vb run w) (hp : Blk w g 9 (pcs ps)) (hn : n = ps.length) (hl : run.length + ps.flatten.length ≤ 140737488355328) (hn2 : n ≤ 100) :
    Calls Try.prog 22 #[.pointer (some ⟨b, 0, none⟩), .slice (some ⟨g, 0, none⟩) n c] w fun e w' => e = .returned (.tuple #[]) ∧ (∃ p' vb', WrV B b vn vo p' vb' (run ++ ps.flatten) w') ∧ Below B w w' ∧ Keep w w' := by
  have HH : Hid (PcAt B b g vn vo run ps w 0 w) := Lib.hid ⟨⟨p, vb, by simpa using h⟩, Below.refl _ _, Keep.refl _, hp⟩
  have HN := Lib.hid hn
  clear h hp hn
  go_enter Try.func22, Try.ntmps22
  go_wp2_with fail
  go_loopw [8] (fun i wr => ∃ k : Nat, k ≤ n ∧ i = .int .i64 k ∧ Hid (PcAt B b g vn vo run ps w k wr)) (fun i _ => n - (intOf i).toNat)
  case atStart => exact ⟨0, Nat.zero_le _, rfl, HH⟩
  case round =>
    obtain ⟨k, hk, rfl, hh⟩ := hrel
    obtain ⟨⟨p1, vb1, hv⟩, hbel, hkp, hblk⟩ := hh.out
    clear hh
    by_cases hkn : k < n
    · have hkt : k < ps.length := by have := HN.out; omega
      have e0 : wr.cell? ⟨g, k, none⟩ = some (.string (tx ps[k])) := (hblk.cell k).trans (pcs_at ps k hkt)
      have HT := Lib.hid (flat_take ps k hkt)
      have hlt := flat_take_len ps k hkt
      have HV := Lib.hid hv
      have HB := Lib.hid hbel
      have HK := Lib.hid hkp
      have HG := Lib.hid hblk
      clear hv hbel hkp hblk
      obtain ⟨x, hx⟩ : ∃ x, x = ps[k] := ⟨_, rfl⟩
      rw [← hx] at e0 HT hlt
      clear hx
      go_wp2_with fail
      refine (mWrite_c HV.out (tx x) (by rw [tx_size]; simp only [List.length_append]; omega)).mono ?_
      rintro e w1 ⟨rfl, ⟨p2, vb2, hv2⟩, hb2, hk2⟩
      have X : Hid (PcAt B b g vn vo run ps w (k + 1) w1) := Lib.hid ⟨⟨p2, vb2, by rw [HT.out, ← List.append_assoc]; exact hv2⟩, HB.out.trans hb2, HK.out.trans hk2, hk2 g _ _ (by decide) (by decide) HG.out⟩
      clear hv2 hb2 hk2
      go_wp2_with fail
      go_roundw
      case rel => exact ⟨k + 1, by omega, by go_num, X⟩
      case measure => simp [intOf]; omega
    · obtain rfl : k = n := by omega
      go_wp2_with fail
      go_end0
      refine ⟨rfl, ⟨p1, vb1, ?_⟩, hbel, hkp⟩
      rwa [HN.out, List.take_length] at hv

set_option maxRecDepth 100000 in
set_option maxHeartbeats 2000000 in
theorem hasKids_c (B b : Nat) (A : Option Addr) (n c i : Nat) (vo p vb : Value) (run : List UInt8) (ns : List Nd) (w : World) (h : WrV B b (.slice A n c) vo p vb run w) (hr : NodesR B w (.slice A n c) ns) (hn : n = ns.length) (hi : i < n) (hlen : n ≤ 1000000000000) :
    Calls Try.prog 24 #[.pointer (some ⟨b, 0, none⟩), .int .i64 (i : Int)] w fun e w' => e = .returned (.bool (kidsB ns i)) ∧ w = w' := by
  have c0 := h.blk.cell 0
  have hw1 : IntKind.i64.wrap ((i : Int) + 1) = ((i + 1 : Nat) : Int) := by rw [IntWalk.i64_in _ (by omega)]; omega
  obtain ⟨j, hj⟩ : ∃ j, j = i + 1 := ⟨_, rfl⟩
  by_cases hin : i + 1 < n
  · obtain ⟨b', o', hA, e0⟩ := hr.par (i + 1) (by omega)
    subst hA
    have HK := Lib.hid (kidsB_yes (ns := ns) (i := i) (by omega))
    rw [← hj] at hin e0 HK hw1
    have hd : decide ((j : Int) < (n : Int)) = true := by rw [decide_eq_true_iff]; omega
    obtain ⟨q, hq⟩ : ∃ q, q = parAt ns (j : Int) := ⟨_, rfl⟩
    rw [← hq] at e0 HK
    clear h hr hn hj hq
    go_enter Try.func24, Try.ntmps24
    go_wp2_with fail
    go_ret
    exact ⟨by rw [HK.out]; rfl, rfl⟩
  · have HK := Lib.hid (kidsB_no (ns := ns) (i := i) (by omega))
    rw [← hj] at hin hw1
    have hd : decide ((j : Int) < (n : Int)) = false := by rw [decide_eq_false_iff_not]; omega
    clear h hr hn hj
    go_enter Try.func24, Try.ntmps24
    go_wp2_with fail
    go_ret
    exact ⟨ret_bool HK.out.symm, rfl⟩

end Go.Proofs.Ytkccockdnjjanaa
