/-
  The document's own answers (layer 4): which attributes may be.
-/
import Derived.Test.YtkccockdnjjanaaGreatDoorGnAttR
import Derived.Test.YtkccockdnjjanaaGreatDoorMkMath
import Derived.Test.YtkccockdnjjanaaGreatDoorRfFind
import Derived.Deep.RegionHeld3
import Derived.Deep.CutRange
namespace Nwl
open Go
theorem at_some {l : List (List UInt8 × List UInt8)} {k : Nat} (h : k < l.length) : attrAtB l k = (!((l.take k).map (·.1)).contains l[k].1 && (nameL l[k].1 && allL l[k].2)) := by
  unfold attrAtB
  rw [List.getElem?_eq_getElem h]
theorem at_bad {l : List (List UInt8 × List UInt8)} {k : Nat} (h : k < l.length) (hb : (nameL l[k].1 && allL l[k].2) = false) : attrAtB l k = false := by
  rw [at_some h, hb, Bool.and_false]
theorem at_twice {l : List (List UInt8 × List UInt8)} {k q : Nat} (h : k < l.length) (hq : q < k) (he : (l[q]'(by omega)).1 = l[k].1) : attrAtB l k = false := by
  have hc : ((l.take k).map (·.1)).contains l[k].1 = true := by
    rw [List.contains_iff_mem, List.mem_map]
    refine ⟨l[q]'(by omega), ?_, he⟩
    rw [List.mem_take_iff_getElem]
    exact ⟨q, by omega, rfl⟩
  rw [at_some h, hc]; rfl
theorem at_good {l : List (List UInt8 × List UInt8)} {k : Nat} (h : k < l.length) (hb : (nameL l[k].1 && allL l[k].2) = true) (hno : ∀ q (hq : q < l.length), q < k → l[q].1 ≠ l[k].1) : attrAtB l k = true := by
  have hc : ((l.take k).map (·.1)).contains l[k].1 = false := by
    cases e : ((l.take k).map (·.1)).contains l[k].1 with
    | false => rfl
    | true =>
      rw [List.contains_iff_mem, List.mem_map] at e
      obtain ⟨a, ha, hn⟩ := e
      rw [List.mem_take_iff_getElem] at ha
      obtain ⟨q, hq, rfl⟩ := ha
      exact absurd hn (hno q (by omega) (by omega))
  rw [at_some h, hc, hb]; rfl
theorem attrsTo_bad {l : List (List UInt8 × List UInt8)} {k : Nat} (h : k < l.length) (hb : attrAtB l k = false) : attrsB l = false := attrsB_bad h hb
end Nwl
namespace Go.Proofs.YtkccockdnjjanaaGreatDoor
open Nwl
open Go.RowKit Go.Maps
set_option linter.unusedVariables false
set_option linter.unusedSimpArgs false

theorem rName_b (s : ByteArray) (w : World) (hs : s.size ≤ maxLen) (r : Bool) (hr : nameL (bs s) = r) :
    Calls Tryz.prog 31 #[.string s] w fun e w' => e = .returned (.bool r) ∧ w = w' := by
  subst hr; exact refName_c s w hs
theorem rall_b (s : ByteArray) (w : World) (hs : s.size ≤ maxLen) (r : Bool) (hr : allL (bs s) = r) :
    Calls Tryz.prog 33 #[.string s] w fun e w' => e = .returned (.bool r) ∧ w = w' := by
  subst hr; exact refall_c s w hs

set_option maxRecDepth 100000 in
set_option maxHeartbeats 4000000 in
theorem rattrs_c (B : Nat) (as' : List (List UInt8 × List UInt8)) (A : Option Addr) (n c : Nat) (w : World) (hB : B ≤ w.heap.size) (h : AttR B w A n as') (hn : n ≤ 1000000000) (hs : ∀ a ∈ as', a.1.length ≤ 1000000000 ∧ a.2.length ≤ 1000000000) (r : Bool) (hr : attrsB as' = r) :
    Calls Tryz.prog 32 #[.slice A n c] w fun e w' => e = .returned (.bool r) ∧ Hid (Below w.heap.size w w') := by
  have HA := Lib.hid h
  have HL := Lib.hid h.1
  have HS := Lib.hid hs
  have HR := Lib.hid hr
  clear h hs hr
  go_enter Tryz.func32, Tryz.ntmps32
  go_wp2_with fail
  go_loopw [3] (fun iv wr => ∃ k : Nat, k ≤ n ∧ iv = .int .i64 k ∧ Hid (Below w.heap.size w wr ∧ attrsTo as' k = true)) (fun iv _ => n - (intOf iv).toNat)
  case atStart => exact ⟨0, Nat.zero_le _, rfl, Lib.hid ⟨Below.refl _ _, rfl⟩⟩
  case round =>
    obtain ⟨k, hk, rfl, hh⟩ := hrel
    by_cases hlt : k < n
    · have hkl : k < as'.length := by have := HL.out; omega
      obtain ⟨b, o, rfl, hb, q1, q2⟩ := HA.out.2 k hkl
      have BB := Lib.hid hh.out.1
      have TT := Lib.hid hh.out.2
      obtain ⟨z1, z2⟩ := HS.out _ (List.getElem_mem hkl)
      obtain ⟨m, hm⟩ : ∃ m, (as'[k]'hkl).1 = m := ⟨_, rfl⟩
      obtain ⟨v, hv⟩ : ∃ v, (as'[k]'hkl).2 = v := ⟨_, rfl⟩
      rw [hm] at q1 z1
      rw [hv] at q2 z2
      have p1 : wr.cell? ⟨b, o + k * 2, none⟩ = some (.string (tx m)) := (BB.out.cell (p := ⟨b, o + k * 2, none⟩) (by show b < _; omega)).trans q1
      have p2 : wr.cell? ⟨b, o + k * 2 + 1, none⟩ = some (.string (tx v)) := (BB.out.cell (p := ⟨b, o + k * 2 + 1, none⟩) (by show b < _; omega)).trans q2
      have s1 : (tx m).size ≤ maxLen := by rw [tx_size]; unfold maxLen; omega
      have s2 : (tx v).size ≤ maxLen := by rw [tx_size]; unfold maxLen; omega
      obtain ⟨x, hx⟩ : ∃ x, nameL (bs (tx m)) = x := ⟨_, rfl⟩
      obtain ⟨y, hy⟩ : ∃ y, allL (bs (tx v)) = y := ⟨_, rfl⟩
      have HXY : Hid ((nameL (as'[k]'hkl).1 && allL (as'[k]'hkl).2) = (x && y)) := Lib.hid (by rw [hm, hv, ← hx, ← hy]; rfl)
      have HX := Lib.hid hx
      have HY := Lib.hid hy
      have HM := Lib.hid hm
      clear q1 q2 hx hy hv hm hh
      go_wp2_with fail
      refine (rName_b (tx m) _ s1 x HX.out).mono ?_
      rintro e w' ⟨rfl, rfl⟩
      cases x with
      | false =>
        have HF : Hid (false = r) := Lib.hid (by rw [← HR.out, attrsB_bad hkl (at_bad hkl HXY.out)])
        go_wp2_with fail
        go_ret
        exact ⟨ret_bool HF.out, BB⟩
      | true =>
        go_wp2_with fail
        refine (rall_b (tx v) _ s2 y HY.out).mono ?_
        rintro e w' ⟨rfl, rfl⟩
        cases y with
        | false =>
          have HF : Hid (false = r) := Lib.hid (by rw [← HR.out, attrsB_bad hkl (at_bad hkl HXY.out)])
          go_wp2_with fail
          go_ret
          exact ⟨ret_bool HF.out, BB⟩
        | true =>
          clear p2 s1 s2
          go_wp2_with fail
          go_loopw [4] (fun jv wq => ∃ j : Nat, j ≤ k ∧ jv = .int .i64 j ∧ Hid (Below w.heap.size w wq ∧ ∀ q (hq : q < as'.length), q < j → as'[q].1 ≠ (as'[k]'hkl).1)) (fun jv _ => k - (intOf jv).toNat)
          case atStart => exact ⟨0, Nat.zero_le _, rfl, Lib.hid ⟨BB.out, fun q _ h => by omega⟩⟩
          case round =>
            clear BB p1
            obtain ⟨j, hj, rfl, hh⟩ := hrel
            have BB := Lib.hid hh.out.1
            have NO := Lib.hid hh.out.2
            clear hh
            by_cases hjk : j < k
            · have hjl : j < as'.length := by omega
              obtain ⟨b', o', e', hb', q1, -⟩ := HA.out.2 j hjl
              injection e' with e'
              injection e' with e1 e2
              subst e1 e2
              obtain ⟨b', o', e', -, q2, -⟩ := HA.out.2 k hkl
              injection e' with e'
              injection e' with e1 e2
              subst e1 e2
              rw [HM.out] at q2
              obtain ⟨u, hu⟩ : ∃ u, (as'[j]'hjl).1 = u := ⟨_, rfl⟩
              rw [hu] at q1
              have HU := Lib.hid hu
              have p1 : wr.cell? ⟨b, o + j * 2, none⟩ = some (.string (tx u)) := (BB.out.cell (p := ⟨b, o + j * 2, none⟩) (by show b < _; omega)).trans q1
              have p2 : wr.cell? ⟨b, o + k * 2, none⟩ = some (.string (tx m)) := (BB.out.cell (p := ⟨b, o + k * 2, none⟩) (by show b < _; omega)).trans q2
              have g1 : (tx u).toList = u := by rw [ByteArray.toList_eq]; rfl
              have g2 : (tx m).toList = m := by rw [ByteArray.toList_eq]; rfl
              have i1 : (j : Int) < (n : Int) := by omega
              have i2 : (k : Int) < (n : Int) := by omega
              have i3 : j < n := by omega
              clear q1 q2 hu hb'
              go_upto_region 9 with fail
              by_cases hum : u = m
              · have hmb : (u == m) = true := by rw [beq_iff_eq]; exact hum
                have HF : Hid (false = r) := Lib.hid (by rw [← HR.out, attrsB_bad hkl (at_twice hkl hjk (by rw [HU.out, HM.out]; exact hum))])
                clear hum
                go_region_held3 (fun w' => w'.cell? ⟨b, o + j * 2, none⟩ = some (.string (tx u)) ∧ w'.cell? ⟨b, o + k * 2, none⟩ = some (.string (tx m))) (first | exact ⟨p1, p2⟩ | fail) (fail)
                rename_i hheld
                clear hheld
                go_wp2_with fail
                go_ret
                exact ⟨ret_bool HF.out, Lib.hid BB.out.drew⟩
              · have hmb : (u == m) = false := by rw [beq_eq_false_iff_ne]; exact hum
                have hup : Hid (Below w.heap.size w wr.drew ∧ ∀ q (hq : q < as'.length), q < j + 1 → as'[q].1 ≠ (as'[k]'hkl).1) := Lib.hid ⟨BB.out.drew, by
                  intro q hq h
                  by_cases e : q = j
                  · subst e; rw [HU.out, HM.out]; exact hum
                  · exact NO.out q hq (by omega)⟩
                go_region_held3 (fun w' => w'.cell? ⟨b, o + j * 2, none⟩ = some (.string (tx u)) ∧ w'.cell? ⟨b, o + k * 2, none⟩ = some (.string (tx m))) (first | exact ⟨p1, p2⟩ | fail) (fail)
                rename_i hheld
                clear hheld
                go_wp2_with fail
                go_roundw
                case rel => exact ⟨j + 1, by omega, by go_num, hup⟩
                case measure => simp [intOf]; omega
            · obtain rfl : j = k := by omega
              have hup : Hid (Below w.heap.size w wr ∧ attrsTo as' (j + 1) = true) := Lib.hid ⟨BB.out, attrsTo_next TT.out (at_good hkl HXY.out NO.out)⟩
              go_wp2_with fail
              go_roundw
              case rel => exact ⟨j + 1, by omega, by go_num, hup⟩
              case measure => simp [intOf]; omega
    · have HF : Hid (true = r) := Lib.hid (by
        have : k = as'.length := by have := HL.out; omega
        rw [← HR.out]
        unfold attrsB
        rw [← this]; exact hh.out.2.symm)
      go_wp2_with fail
      go_ret
      exact ⟨ret_bool HF.out, Lib.hid hh.out.1⟩
end Go.Proofs.YtkccockdnjjanaaGreatDoor
