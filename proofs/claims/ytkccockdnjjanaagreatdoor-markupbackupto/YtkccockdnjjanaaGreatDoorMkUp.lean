/-
  Layer 4: what the tree's nodes are asked: within, depth, innermost, isText, allAllowed.
-/
import Derived.Test.YtkccockdnjjanaaGreatDoorMkMath
import Derived.Test.YtkccockdnjjanaaGreatDoorGnMap
import Derived.BigQuiet
namespace Go.Proofs.YtkccockdnjjanaaGreatDoor
open Nwl
open Go.RowKit Go.Maps
set_option linter.unusedVariables false

/-- a node as it is handed -/
abbrev ndV (p : Int) (n x : List UInt8) (av : Value) : Value := .agg #[.int .i64 p, .string (tx n), .string (tx x), av]
theorem tx_nil : tx [] = ⟨#[]⟩ := rfl
theorem txl_nil {l : List UInt8} (h : l = []) : (tx l).toList = [] := toList_nil_of _ (by rw [h]; rfl)
theorem txl_ne {l : List UInt8} (h : ¬ l = []) : ¬ (tx l).toList = [] := toList_ne_of _ (by
  rw [tx_size]
  cases l with
  | nil => exact absurd rfl h
  | cons => simp)

set_option maxHeartbeats 1000000 in
theorem isText_c (p : Int) (n x : List UInt8) (A : Option Addr) (l c : Nat) (w : World) :
    Calls Tryz.prog 57 #[.agg #[.int .i64 p, .string (tx n), .string (tx x), .slice A l c]] w fun e w' => e = .returned (.bool (decide (n = []))) ∧ Below w.heap.size w w' := by
  by_cases h : n = []
  · have h1 := txl_nil h
    have HD : Hid (decide (n = []) = true) := Lib.hid (by simp [h])
    clear h
    go_enter Tryz.func57, Tryz.ntmps57
    go_wp2
    go_ret
    exact ⟨ret_bool HD.out.symm, (Below.refl _ _).alloc (Nat.le_refl _) _⟩
  · have h1 := txl_ne h
    have h2 : (tx n).toList.isEmpty = false := by simpa using h1
    have HD : Hid (decide (n = []) = false) := Lib.hid (by simp [h])
    clear h
    go_enter Tryz.func57, Tryz.ntmps57
    go_wp2
    go_ret
    exact ⟨ret_bool HD.out.symm, (Below.refl _ _).alloc (Nat.le_refl _) _⟩

set_option maxHeartbeats 400000 in
theorem mallAllowed_c (s : ByteArray) (w : World) (hs : s.size ≤ maxLen) :
    Calls Tryz.prog 82 #[.string s] w fun e w' => e = .returned (.bool (allL (bs s))) ∧ w = w' := by
  unfold maxLen at hs
  go_enter Tryz.func82, Tryz.ntmps82
  go_wp2
  go_loop [6] (fun i => ∃ k : Nat, k ≤ s.size ∧ i = .int .i64 k ∧ AllowTo s k) (fun i => s.size - (intOf i).toNat)
  case atStart => exact ⟨0, by omega, rfl, allowTo_zero _⟩
  case round =>
    obtain ⟨k, hk, rfl, hall⟩ := hrel
    by_cases hlt : k < s.size
    · cases hc : allowedI s[k].toNat with
      | true =>
        have hup := allowTo_succ hall hlt hc
        go_wp2_with (go_at_call 65; refine (Allowed_c _ _).mono ?_; rintro e w' ⟨rfl, rfl⟩)
        go_round
        case rel => exact ⟨k + 1, by omega, by go_num, hup⟩
        case measure => simp [intOf]; omega
      | false =>
        have HN := Lib.hid (allowTo_no hlt hc)
        go_wp2_with (go_at_call 65; refine (Allowed_c _ _).mono ?_; rintro e w' ⟨rfl, rfl⟩)
        go_ret
        exact ⟨ret_bool HN.out.symm, rfl⟩
    · have HN := Lib.hid (allowTo_end hall (by omega))
      go_wp2
      go_ret
      exact ⟨ret_bool HN.out.symm, rfl⟩

/-- a walk upwards: where it stands -/
theorem up_next {ns : List Nd} {m : Nat} {above : Int} (h : Par ns m) {j : Nat} (hj : j < m) (hne : ¬ (j : Int) = above) : (chainL ns j).contains above = (chainL ns (parAt ns j)).contains above := by
  rw [chainL_step h (by omega) (by omega), List.contains_cons]
  have : (above == (j : Int)) = false := by rw [beq_eq_false_iff_ne]; exact fun e => hne e.symm
  rw [this]
  rfl
theorem up_here {ns : List Nd} {m : Nat} (h : Par ns m) {j : Nat} (hj : j < m) : (chainL ns j).contains (j : Int) = true := by
  rw [chainL_step h (by omega) (by omega), List.contains_cons]
  simp
theorem parAt_nat (ns : List Nd) (j : Nat) (h : j < ns.length) : parAt ns (j : Int) = (ns[j]).parent := by
  unfold parAt
  rw [Int.toNat_natCast, nd_eq ns j h]
/-- a node's parent, in memory -/
theorem NodesR.par {B : Nat} {w : World} {A : Option Addr} {n c : Nat} {ts : List Nd} (h : NodesR B w (.slice A n c) ts) (k : Nat) (hk : k < ts.length) : ∃ b o : Nat, A = some ⟨b, o, none⟩ ∧ w.cell? ⟨b, o + k * 4, none⟩ = some (.int .i64 (parAt ts (k : Int))) := by
  obtain ⟨b, o, A2, l2, c2, hA, hra, e0, e1, e2, e3⟩ := h.at k hk
  exact ⟨b, o, hA, by rw [parAt_nat ts k hk]; exact e0⟩

set_option maxRecDepth 100000 in
set_option maxHeartbeats 2000000 in
theorem within_c (B : Nat) (ns : List Nd) (A : Option Addr) (n c m : Nat) (i above : Int) (w : World) (hr : NodesR B w (.slice A n c) ns) (hn : n = ns.length) (hp : Par ns m) (hm : m ≤ n) (h0 : -1 ≤ i) (h1 : i < m) (hlen : n ≤ 1000000000000) :
    Calls Tryz.prog 85 #[.slice A n c, .int .i64 i, .int .i64 above] w fun e w' => e = .returned (.bool ((chainL ns i).contains above)) ∧ w = w' := by
  have HR := Lib.hid hr
  have HP := Lib.hid hp
  have HN := Lib.hid hn
  clear hr hp hn
  go_enter Tryz.func85, Tryz.ntmps85
  go_wp2
  refine wp_scope_again 0 (fun a' w' => w = w' ∧ ∃ (j : Int) (u7 u8 u9 u10 u11 u12 u13 u14 u15 u16 : Value), a' = { tmps := #[.slice A n c, .int .i64 j, .int .i64 above, undef, undef, undef, .bool false, u7, u8, u9, u10, u11, u12, u13, u14, u15, u16], defers := [] } ∧ Hid (-1 ≤ j ∧ j < m ∧ (chainL ns i).contains above = (chainL ns j).contains above)) (fun a' _ => (intOf (a'.tmps.getD 1 undef) + 1).toNat) rfl ?_ ?_
  · rintro a' w' ⟨rfl, j, u7, u8, u9, u10, u11, u12, u13, u14, u15, u16, rfl, hh⟩
    obtain ⟨j0, j1, je⟩ := hh.out
    clear hh
    by_cases hj : j = -1
    · subst hj
      have HE : Hid ((chainL ns i).contains above = false) := Lib.hid (by rw [je, chainL_neg]; rfl)
      clear je
      go_wp2_with fail
      simp only [Exit.jump]
      go_ret
      exact ⟨ret_bool HE.out.symm, rfl⟩
    obtain ⟨k, rfl⟩ : ∃ k : Nat, j = k := ⟨j.toNat, by omega⟩
    have hkm : k < m := by omega
    have hjn : ((k : Int) == -1) = false := by rw [beq_eq_false_iff_ne]; exact hj
    by_cases ha : (k : Int) = above
    · have HE : Hid ((chainL ns i).contains above = true) := Lib.hid (by rw [je, ← ha]; exact up_here HP.out hkm)
      clear je
      subst ha
      go_wp2_with fail
      simp only [Exit.jump]
      go_ret
      exact ⟨ret_bool HE.out.symm, rfl⟩
    · have hab : ((k : Int) == above) = false := by rw [beq_eq_false_iff_ne]; exact ha
      have HE : Hid ((chainL ns i).contains above = (chainL ns (parAt ns (k : Int))).contains above) := Lib.hid (by rw [je]; exact up_next HP.out hkm ha)
      have HB := Lib.hid (HP.out k hkm)
      obtain ⟨b, o, rfl, e0⟩ := HR.out.par k (by have := HN.out; omega)
      have hkn : k < n := by omega
      clear je ha
      go_wp2_with fail
      go_step3
      have hb2 := HB.out
      refine ⟨rfl, ⟨rfl, parAt ns (k : Int), _, _, _, _, _, _, _, _, _, _, rfl, hb2.1, by omega, HE.out⟩, ?_⟩
      simp [intOf]
      omega
  · intro hpass
    go_wp2
    go_step3
    rename_i hK
    exact hK _ _ (hpass.out _ _ ⟨rfl, i, _, _, _, _, _, _, _, _, _, _, rfl, h0, h1, rfl⟩)

theorem depth_next {ns : List Nd} {m : Nat} (h : Par ns m) {j : Nat} (hj : j < m) : (chainL ns j).length = (chainL ns (parAt ns j)).length + 1 := by
  rw [chainL_step h (by omega) (by omega), List.length_cons]

set_option maxRecDepth 100000 in
set_option maxHeartbeats 2000000 in
theorem depth_c (B : Nat) (ns : List Nd) (A : Option Addr) (n c m : Nat) (i : Int) (w : World) (hr : NodesR B w (.slice A n c) ns) (hn : n = ns.length) (hp : Par ns m) (hm : m ≤ n) (h0 : -1 ≤ i) (h1 : i < m) (hlen : n ≤ 1000000000000) :
    Calls Tryz.prog 87 #[.slice A n c, .int .i64 i] w fun e w' => e = .returned (.int .i64 ((chainL ns i).length : Int)) ∧ w = w' := by
  have HR := Lib.hid hr
  have HP := Lib.hid hp
  have HN := Lib.hid hn
  have hcl := chainL_len hp (i + 1).toNat i (by omega) h0 h1
  clear hr hp hn
  go_enter Tryz.func87, Tryz.ntmps87
  go_wp2
  refine wp_scope_again 0 (fun a' w' => w = w' ∧ ∃ (j : Int) (d : Nat) (u6 u7 u8 u9 u10 u11 u12 u13 u14 u15 : Value), a' = { tmps := #[.slice A n c, .int .i64 j, undef, undef, .int .i64 0, .int .i64 (d : Int), u6, u7, u8, u9, u10, u11, u12, u13, u14, u15], defers := [] } ∧ Hid (-1 ≤ j ∧ j < m ∧ (chainL ns i).length = d + (chainL ns j).length)) (fun a' _ => (intOf (a'.tmps.getD 1 undef) + 1).toNat) rfl ?_ ?_
  · rintro a' w' ⟨rfl, j, d, u6, u7, u8, u9, u10, u11, u12, u13, u14, u15, rfl, hh⟩
    obtain ⟨j0, j1, je⟩ := hh.out
    clear hh
    by_cases hj : j = -1
    · subst hj
      have HE : Hid ((chainL ns i).length = d) := Lib.hid (by rw [je, chainL_neg]; rfl)
      clear je
      go_wp2_with fail
      simp only [Exit.jump]
      go_ret
      exact ⟨by rw [HE.out]; rfl, rfl⟩
    obtain ⟨k, rfl⟩ : ∃ k : Nat, j = k := ⟨j.toNat, by omega⟩
    have hkm : k < m := by omega
    have hjn : ((k : Int) == -1) = false := by rw [beq_eq_false_iff_ne]; exact hj
    have HE : Hid ((chainL ns i).length = d + 1 + (chainL ns (parAt ns (k : Int))).length) := Lib.hid (by rw [je, depth_next HP.out hkm]; omega)
    have hd : d < 1000000000001 := by omega
    have HB := Lib.hid (HP.out k hkm)
    obtain ⟨b, o, rfl, e0⟩ := HR.out.par k (by have := HN.out; omega)
    have hkn : k < n := by omega
    clear je
    go_wp2_with fail
    go_step3
    have hb2 := HB.out
    refine ⟨rfl, ⟨rfl, parAt ns (k : Int), d + 1, _, _, _, _, _, _, _, _, _, _, rfl, hb2.1, by omega, HE.out⟩, ?_⟩
    simp [intOf]
    omega
  · intro hpass
    go_wp2
    go_step3
    rename_i hK
    exact hK _ _ (hpass.out _ _ ⟨rfl, i, 0, _, _, _, _, _, _, _, _, _, _, rfl, h0, h1, by omega⟩)

end Go.Proofs.YtkccockdnjjanaaGreatDoor
