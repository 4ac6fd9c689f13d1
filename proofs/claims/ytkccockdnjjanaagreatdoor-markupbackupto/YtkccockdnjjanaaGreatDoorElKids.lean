/-
  The contracts of Kids and Inner (layer 3).
-/
import Derived.Test.YtkccockdnjjanaaGreatDoorElParse
namespace Nwl
def parentAt (ns : List Nd) (k : Nat) : Int := ((ns[k]?).map (·.parent)).getD (-2)
theorem parentAt_eq (ns : List Nd) (k : Nat) (h : k < ns.length) : parentAt ns k = ns[k].parent := by unfold parentAt; rw [List.getElem?_eq_getElem h]; rfl
/-- those under i, among the first k -/
def kidsTo (ns : List Nd) (i : Int) (k : Nat) : List Nat := (List.range k).filter fun j => parentAt ns j == i
theorem kidsTo_zero (ns : List Nd) (i : Int) : kidsTo ns i 0 = [] := rfl
theorem kidsTo_yes {ns : List Nd} {i : Int} {k : Nat} (h : parentAt ns k = i) : kidsTo ns i (k + 1) = kidsTo ns i k ++ [k] := by
  unfold kidsTo; rw [List.range_succ, List.filter_append]; simp [h]
theorem kidsTo_no {ns : List Nd} {i : Int} {k : Nat} (h : parentAt ns k ≠ i) : kidsTo ns i (k + 1) = kidsTo ns i k := by
  unfold kidsTo; rw [List.range_succ, List.filter_append]; simp [h]
theorem kidsTo_len (ns : List Nd) (i : Int) (k : Nat) : (kidsTo ns i k).length ≤ k := by
  unfold kidsTo
  have := List.length_filter_le (fun j => parentAt ns j == i) (List.range k)
  simpa using this
theorem kidsTo_lt {ns : List Nd} {i : Int} {k j : Nat} (h : j ∈ kidsTo ns i k) : j < k := by
  unfold kidsTo at h
  rw [List.mem_filter, List.mem_range] at h
  exact h.1
def kidsL (ns : List Nd) (i : Int) : List Nat := if 0 ≤ i ∧ i < ns.length then kidsTo ns i ns.length else []
theorem kidsL_in {ns : List Nd} {i : Int} (h : 0 ≤ i ∧ i < ns.length) : kidsL ns i = kidsTo ns i ns.length := if_pos h
theorem kidsL_out {ns : List Nd} {i : Int} (h : ¬ (0 ≤ i ∧ i < ns.length)) : kidsL ns i = [] := if_neg h
theorem kidsL_lt {ns : List Nd} {i : Int} {j : Nat} (h : j ∈ kidsL ns i) : j < ns.length := by
  unfold kidsL at h
  split at h
  · exact kidsTo_lt h
  · cases h
theorem kidsL_len (ns : List Nd) (i : Int) : (kidsL ns i).length ≤ ns.length := by
  unfold kidsL
  split
  · exact kidsTo_len _ _ _
  · simp
/-- the text that a node adds -/
def textOf (ns : List Nd) (k : Nat) : List UInt8 := match ns[k]? with
  | some n => if n.name = [] then n.text else []
  | none => []
def innersL (ns : List Nd) (ks : List Nat) : List UInt8 := ks.flatMap (textOf ns)
def innerT (ns : List Nd) (i : Int) : List UInt8 := innersL ns (kidsL ns i)
theorem innersL_succ (ns : List Nd) (ks : List Nat) (j : Nat) (h : j < ks.length) : innersL ns (ks.take (j + 1)) = innersL ns (ks.take j) ++ textOf ns ks[j] := by
  unfold innersL; rw [List.take_succ_eq_append_getElem h, List.flatMap_append]; simp
end Nwl
namespace Go.Proofs.YtkccockdnjjanaaGreatDoor
open Nwl
open Go.RowKit Go.Maps
set_option linter.unusedVariables false

theorem NdiCells.of {B base : Nat} {w : World} (hB : w.heap.size ≤ B) : ∀ {ts : List Nd} {cs : List Value}, NdCells w base ts cs → NdiCells B w ts cs
  | [], _, h => h
  | t :: ts, _, ⟨A, l, c, tl, e, h1, h2⟩ => ⟨.slice A l c, tl, e, RowR.of h1 hB, NdiCells.of hB h2⟩
theorem NodesR.of {base : Nat} {w : World} {v : Value} {ts : List Nd} (h : NodesAt base w v ts) : NodesR w.heap.size w v ts := by
  obtain ⟨cs, h1, h2⟩ := h
  exact ⟨cs, RowR.of h1 (Nat.le_refl _), NdiCells.of (Nat.le_refl _) h2⟩


set_option maxRecDepth 100000 in
set_option maxHeartbeats 2000000 in
theorem Kids_c (ns : List Nd) (A : Option Addr) (n c : Nat) (i : Int) (w : World) (hr : NodesR w.heap.size w (.slice A n c) ns) (hn : n = ns.length) (hlen : n ≤ 1000000000000) :
    Calls Tryz.prog 14 #[.slice A n c, .int .i64 i] w fun e w' => ∃ (A' : Option Addr) (c' : Nat), e = .returned (.slice A' (kidsL ns i).length c') ∧ w'.ownsRow w.heap.size 3 1 (.slice A' (kidsL ns i).length c') (kidsL ns i).length (placesC (kidsL ns i)) ∧ Below w.heap.size w w' := by
  have HR := Lib.hid hr
  have HN := Lib.hid hn
  clear hr hn
  by_cases h0 : i < 0
  · have HX : Hid (kidsL ns i = []) := Lib.hid (kidsL_out (by omega))
    go_enter Tryz.func14, Tryz.ntmps14
    go_wp2_with fail
    go_ret
    rw [HX.out]
    exact ⟨none, 0, rfl, World.ownsRow_nil _ _ _ _, Below.refl _ _⟩
  by_cases h1 : (n : Int) ≤ i
  · have HX : Hid (kidsL ns i = []) := Lib.hid (kidsL_out (by have := HN.out; omega))
    go_enter Tryz.func14, Tryz.ntmps14
    go_wp2_with fail
    go_ret
    rw [HX.out]
    exact ⟨none, 0, rfl, World.ownsRow_nil _ _ _ _, Below.refl _ _⟩
  have HX : Hid (kidsL ns i = kidsTo ns i n) := Lib.hid (by have := HN.out; rw [kidsL_in (by omega)]; rw [this])
  obtain ⟨i0, hi, hz0, hz1, hz2⟩ := info_parts info_i
  have h0' : 0 ≤ i := by omega
  have h1' : i < (n : Int) := by omega
  go_enter Tryz.func14, Tryz.ntmps14
  go_wp2_with fail
  go_loopw [5, 18] (fun v j wr => ∃ q : Nat, q ≤ n ∧ j = .int .i64 q ∧ Hid (wr.ownsRow w.heap.size 3 1 v (kidsTo ns i q).length (placesC (kidsTo ns i q)) ∧ Below w.heap.size w wr)) (fun _ j _ => n - (intOf j).toNat)
  case atStart => exact ⟨0, Nat.zero_le _, rfl, World.ownsRow_nil _ _ _ _, Below.refl _ _⟩
  case round =>
    obtain ⟨q, hq, rfl, hh⟩ := hrel
    obtain ⟨hown, hbel⟩ := hh.out
    clear hh
    obtain ⟨Ak, ck, rfl⟩ := own_form hown
    have HO := Lib.hid hown
    have HB := Lib.hid hbel
    have hbs := hbel.size
    have hkl := kidsTo_len ns i q
    clear hown hbel
    by_cases hqn : q < n
    · have hqt : q < ns.length := by have := HN.out; omega
      obtain ⟨b, o, A2, l2, c2, hA, hra, e0, e1, e2, e3⟩ := (HR.out.below HB.out).at q hqt
      subst hA
      have hpa := parentAt_eq ns q hqt
      rw [← hpa] at e0
      obtain ⟨pq, hpq⟩ : ∃ x, x = parentAt ns q := ⟨_, rfl⟩
      obtain ⟨nq, hnq⟩ : ∃ x, x = tx (ns[q]).name := ⟨_, rfl⟩
      obtain ⟨tq, htq⟩ : ∃ x, x = tx (ns[q]).text := ⟨_, rfl⟩
      rw [← hpq] at e0
      rw [← hnq] at e1
      rw [← htq] at e2
      have HPQ := Lib.hid hpq
      clear hra hpa hpq hnq htq hqt
      by_cases hp : pq = i
      · have HK : Hid (kidsTo ns i (q + 1) = kidsTo ns i q ++ [q]) := Lib.hid (kidsTo_yes (by rw [← HPQ.out]; exact hp))
        have hpe : (pq == i) = true := by rw [beq_iff_eq]; exact hp
        clear hp
        obtain ⟨m, hm⟩ : ∃ m, m = (kidsTo ns i q).length := ⟨_, rfl⟩
        rw [← hm] at HO hkl ⊢
        have HM := Lib.hid hm
        clear hm
        go_wp2_with (at_builtin; refine wpList_append_own _ rfl _ _ 35 rfl w.heap.size 3 i0 _ 1 8 Tryz.underlying35 hi hz0 hz1 hz2 rfl (by decide) _ m (placesC (kidsTo ns i q)) rfl ((HO.out.alloc _).alloc _) ⟨wr.heap.size + 1, 0, none⟩ 1 1 [.int .i64 (q : Int)] rfl rfl (cells_one_new2 _ _ _ _) (by simp [Value.oneCell']) (by unfold maxLen; omega) (by omega) (by simp; omega) ?_)
        intro v' w5 hown5 hgrow5 _
        have X : Hid (w5.ownsRow w.heap.size 3 1 v' (kidsTo ns i (q + 1)).length (placesC (kidsTo ns i (q + 1))) ∧ Below w.heap.size w w5) := Lib.hid (by
          refine ⟨?_, Below.grown ((HB.out.alloc (by omega) _).alloc (by simp; omega) _) hgrow5 (by simp; omega) (fun j hj => (HO.out.lt _ hj).1)⟩
          rw [HK.out, placesC_snoc, List.length_append, ← HM.out]
          exact hown5)
        clear hown5 hgrow5
        go_wp2_with fail
        go_roundw
        case rel => exact ⟨q + 1, by omega, by go_num, X.out⟩
        case measure => simp [intOf]; omega
      · have HK : Hid (kidsTo ns i (q + 1) = kidsTo ns i q) := Lib.hid (kidsTo_no (by rw [← HPQ.out]; exact hp))
        have hpe : (pq == i) = false := by rw [beq_eq_false_iff_ne]; exact hp
        clear hp
        go_wp2_with fail
        go_roundw
        case rel => exact ⟨q + 1, by omega, by go_num, by rw [HK.out]; exact HO.out.alloc _, HB.out.alloc (by omega) _⟩
        case measure => simp [intOf]; omega
    · obtain rfl : q = n := by omega
      go_wp2_with fail
      go_ret
      rw [HX.out]
      exact ⟨Ak, ck, rfl, HO.out, HB.out⟩
end Go.Proofs.YtkccockdnjjanaaGreatDoor
