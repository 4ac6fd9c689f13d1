/-
  The contract of span.cut.
-/
import Derived.Test.YtkphkcpckgdgaaaGreatDoorSpCut
import Derived.Deep.CutRange
namespace Go.Proofs.YtkphkcpckgdgaaaGreatDoor
open Nwl
open Go.RowKit Go.Maps
set_option linter.unusedVariables false
set_option linter.unusedSimpArgs false

theorem trim_len (l : List UInt8) : (Lib.trimB l 32).length ≤ l.length := by
  unfold Lib.trimB Lib.trimLeftB Lib.trimRightB
  refine Nat.le_trans (List.dropWhile_sublist _).length_le ?_
  rw [List.length_reverse]
  refine Nat.le_trans (List.dropWhile_sublist _).length_le ?_
  rw [List.length_reverse]
  exact Nat.le_refl _
theorem wrap_i1 {x : Int} (h0 : 0 ≤ x) (h1 : x ≤ 4611686018427387904) : IntKind.i64.wrap x = x := by
  simp [IntKind.wrap, IntKind.bits, IntKind.signed]
  omega

set_option maxRecDepth 100000 in
set_option maxHeartbeats 4000000 in
theorem cut_yt (s : ByteArray) (w : World) (hs : s.size ≤ 1000) (i : Nat) (hi : Lib.indexAny (bs s) [93, 41] = i) (hR : isR (bs s) = true) (h1 : 1 ≤ i) (h2 : i < s.size) (x y : List UInt8) (p q : Bool) (hx : x.length ≤ 1000) (hy : y.length ≤ 1000) (hc : Lib.cut (bs (s.extract 1 i)) [44] = (x, y, true)) (hp : (((s[0]'(by omega)).toNat : Int) == 91) = p) (hq : ((s[i].toNat : Int) == 93) = q) :
    Calls Tryz.prog 43 #[.string s] w fun e w' => e = .returned (.tuple #[spV ⟨Lib.trimB x 32, Lib.trimB y 32, p, q⟩, .string (s.extract (i + 1) s.size), .bool true]) ∧ Hid (Below w.heap.size w w') := by
  have hs' : s.size ≤ 100000 := by omega
  have HF := Lib.hid hi
  have HR := Lib.hid hR
  have HC := Lib.hid hc
  have X0 := Lib.hid (KB.new w (.string ⟨#[]⟩) (.string ⟨#[]⟩) (.bool false) (.bool false))
  have hms : (s.extract 1 i).size ≤ 100000 := by rw [extract_size s 1 i (by omega)]; omega
  have HX := Lib.hid (fun W => unblank_c x W (by omega))
  have HY := Lib.hid (fun W => unblank_c y W (by omega))
  generalize Lib.trimB x 32 = X at *
  generalize Lib.trimB y 32 = Y at *
  clear hi hR hc hx hy
  have h0s : 0 < s.size := by omega
  have hi1 : IntKind.i64.wrap ((i : Int) + 1) = (i : Int) + 1 := wrap_i1 (by omega) (by omega)
  go_enter Tryz.func43, Tryz.ntmps43
  go_wp2_with fail
  refine (any_c s _ hs' (i : Int) HF.out).mono ?_
  rintro e w1 ⟨rfl, b1⟩
  have X1 := KB.step X0 b1
  go_wp2_with fail
  refine (Is_c s _ true HR.out).mono ?_
  rintro e w2 ⟨rfl, rfl⟩
  go_wp2_with fail
  refine (Cut_c (s.extract 1 i) _ hms x y true HC.out).mono ?_
  rintro e w3 ⟨rfl, b3⟩
  have X3 := KB.step X1 b3
  clear b1 b3 X0 X1
  go_wp2_with fail
  go_cut [8] from 9 to 55 (fun v wx => v = .bool true ∧ Hid (KB w wx (.string (tx X)) (.string (tx Y)) (.bool p) (.bool q)))
  case first =>
    refine wp_region_any (by kernel_rfl) ?_
    change wpAny _ _ _ _ _ _ _ (World.drew _)
    refine wpAny_take (i := 0) (v := .string (tx x)) rfl (by kernel_rfl) (by kernel_rfl) (by kernel_rfl) (fun _ _ _ h => h) (Or.inl ⟨by rfl, fun W => by go_simp⟩) ?_
    simp only [Act.put, List.getElem_toArray, List.getElem_cons_zero, List.getElem_cons_succ, List.setIfInBounds_toArray, List.set_cons_zero, List.set_cons_succ]
    refine wpAny_take (i := 2) (v := .string (tx y)) rfl (by kernel_rfl) (by kernel_rfl) (by kernel_rfl) (fun _ _ _ h => h) (Or.inl ⟨by rfl, fun W => by go_simp⟩) ?_
    simp only [Act.put, List.getElem_toArray, List.getElem_cons_zero, List.getElem_cons_succ, List.setIfInBounds_toArray, List.set_cons_zero, List.set_cons_succ]
    refine wpAny_take (i := 4) (v := .string s) rfl (by kernel_rfl) (by kernel_rfl) (by kernel_rfl) (fun _ _ _ h => h) (Or.inl ⟨by rfl, fun W => by go_simp⟩) ?_
    simp only [Act.put, List.getElem_toArray, List.getElem_cons_zero, List.getElem_cons_succ, List.setIfInBounds_toArray, List.set_cons_zero, List.set_cons_succ]
    refine wpAny_take (i := 5) (v := .int .u8 (s[0].toNat : Int)) rfl (by kernel_rfl) (by kernel_rfl) (by kernel_rfl) (fun _ _ _ h => h) (Or.inl ⟨by rfl, fun W => by go_simp⟩) ?_
    simp only [Act.put, List.getElem_toArray, List.getElem_cons_zero, List.getElem_cons_succ, List.setIfInBounds_toArray, List.set_cons_zero, List.set_cons_succ]
    refine wpAny_take (i := 6) (v := .bool p) rfl (by kernel_rfl) (by kernel_rfl) (by kernel_rfl) (fun _ _ _ h => h) (Or.inl ⟨by rfl, fun W => by go_simp⟩) ?_
    simp only [Act.put, List.getElem_toArray, List.getElem_cons_zero, List.getElem_cons_succ, List.setIfInBounds_toArray, List.set_cons_zero, List.set_cons_succ]
    refine wpAny_take (i := 7) (v := .string s) rfl (by kernel_rfl) (by kernel_rfl) (by kernel_rfl) (fun _ _ _ h => h) (Or.inl ⟨by rfl, fun W => by go_simp⟩) ?_
    simp only [Act.put, List.getElem_toArray, List.getElem_cons_zero, List.getElem_cons_succ, List.setIfInBounds_toArray, List.set_cons_zero, List.set_cons_succ]
    refine wpAny_take (i := 8) (v := .int .i64 (i : Int)) rfl (by kernel_rfl) (by kernel_rfl) (by kernel_rfl) (fun _ _ _ h => h) (Or.inl ⟨by rfl, fun W => by go_simp⟩) ?_
    simp only [Act.put, List.getElem_toArray, List.getElem_cons_zero, List.getElem_cons_succ, List.setIfInBounds_toArray, List.set_cons_zero, List.set_cons_succ]
    refine wpAny_take (i := 9) (v := .int .u8 (s[i].toNat : Int)) rfl (by kernel_rfl) (by kernel_rfl) (by kernel_rfl) (fun _ _ _ h => h) (Or.inl ⟨by rfl, fun W => by go_simp⟩) ?_
    simp only [Act.put, List.getElem_toArray, List.getElem_cons_zero, List.getElem_cons_succ, List.setIfInBounds_toArray, List.set_cons_zero, List.set_cons_succ]
    refine wpAny_take (i := 10) (v := .bool q) rfl (by kernel_rfl) (by kernel_rfl) (by kernel_rfl) (fun _ _ _ h => h) (Or.inl ⟨by rfl, fun W => by go_simp⟩) ?_
    simp only [Act.put, List.getElem_toArray, List.getElem_cons_zero, List.getElem_cons_succ, List.setIfInBounds_toArray, List.set_cons_zero, List.set_cons_succ]
    refine wpAny_ready (rs := [1]) (by kernel_rfl) (by simp) ?_
    refine AllReady.cons rfl (fun K hK => ?_) AllReady.nil
    go_simp
    go_wp2_with (go_at_call 63; refine (HX.out _).mono ?_; rintro e w4 ⟨rfl, b4⟩)
    have X4 := KB.stepd X3 b4
    refine wpAny_ready (rs := [3]) (by kernel_rfl) (by simp) ?_
    refine AllReady.cons rfl (fun K hK => ?_) AllReady.nil
    go_simp
    go_wp2_with (go_at_call 63; refine (HY.out _).mono ?_; rintro e w5 ⟨rfl, b5⟩)
    have X5 := KB.step X4 b5
    refine wpAny_take (i := 11) (v := .agg #[.string (tx X), .string (tx Y), .bool p, .bool q]) rfl (by kernel_rfl) (by kernel_rfl) (by kernel_rfl) (fun _ _ _ h => h) (Or.inl ⟨by rfl, fun W => by go_simp⟩) ?_
    simp only [Act.put, List.getElem_toArray, List.getElem_cons_zero, List.getElem_cons_succ, List.setIfInBounds_toArray, List.set_cons_zero, List.set_cons_succ]
    obtain ⟨k0, k1, k2, k3⟩ := KB.rd X5
    obtain ⟨f0, f1, f2, f3⟩ := KB.fz X5
    have X6 := KB.put X5 (.string (tx X)) (.string (tx Y)) (.bool p) (.bool q)
    refine wpAny_ready (rs := [12]) (by kernel_rfl) (by simp) ?_
    refine AllReady.cons rfl (fun K hK => ?_) AllReady.nil
    go_simp
    refine hK _ _ ?_
    clear hK K
    refine wpAny_done (by kernel_rfl) ?_ _
    go_wp2_with fail
    go_meet
    exact ⟨rfl, X6⟩
  case rest =>
  rename_i W6
  obtain ⟨rfl, X6⟩ := hcut
  obtain ⟨k0, k1, k2, k3⟩ := KB.rd X6
  obtain ⟨f0, f1, f2, f3⟩ := KB.fz X6
  obtain ⟨e0, e1, e2, e3⟩ := KB.eqs X6
  go_wp2_with fail
  go_region
  all_goals (
    go_wp2_with fail
    refine bodyPost_ret (v := .tuple #[spV ⟨X, Y, p, q⟩, .string (s.extract (i + 1) s.size), .bool true]) ?_ rfl ⟨rfl, Lib.hid X6.out.2.drew⟩
    simp [results, Tryz.results43, go_sem, k0, k1, k2, k3])

set_option maxRecDepth 100000 in
set_option maxHeartbeats 4000000 in
theorem cut_yf0 (s : ByteArray) (w : World) (hs : s.size ≤ 1000) (i : Nat) (hi : Lib.indexAny (bs s) [93, 41] = i) (hR : isR (bs s) = true) (h1 : 1 ≤ i) (h2 : i < s.size) (x y : List UInt8) (q : Bool) (hx : x.length ≤ 1000) (hc : Lib.cut (bs (s.extract 1 i)) [44] = (x, y, false)) (hp : (((s[0]'(by omega)).toNat : Int) == 91) = false) (hq : ((s[i].toNat : Int) == 93) = q) :
    Calls Tryz.prog 43 #[.string s] w fun e w' => e = .returned (.tuple #[spV ⟨Lib.trimB x 32, Lib.trimB x 32, false, q⟩, .string (s.extract (i + 1) s.size), .bool false]) ∧ Hid (Below w.heap.size w w') := by
  have hs' : s.size ≤ 100000 := by omega
  have HF := Lib.hid hi
  have HR := Lib.hid hR
  have HC := Lib.hid hc
  have X0 := Lib.hid (KB.new w (.string ⟨#[]⟩) (.string ⟨#[]⟩) (.bool false) (.bool false))
  have hms : (s.extract 1 i).size ≤ 100000 := by rw [extract_size s 1 i (by omega)]; omega
  have HX := Lib.hid (fun W => unblank_c x W (by omega))
  generalize Lib.trimB x 32 = X at *
  clear hi hR hc hx 
  have h0s : 0 < s.size := by omega
  have hi1 : IntKind.i64.wrap ((i : Int) + 1) = (i : Int) + 1 := wrap_i1 (by omega) (by omega)
  go_enter Tryz.func43, Tryz.ntmps43
  go_wp2_with fail
  refine (any_c s _ hs' (i : Int) HF.out).mono ?_
  rintro e w1 ⟨rfl, b1⟩
  have X1 := KB.step X0 b1
  go_wp2_with fail
  refine (Is_c s _ true HR.out).mono ?_
  rintro e w2 ⟨rfl, rfl⟩
  go_wp2_with fail
  refine (Cut_c (s.extract 1 i) _ hms x y false HC.out).mono ?_
  rintro e w3 ⟨rfl, b3⟩
  have X3 := KB.step X1 b3
  clear b1 b3 X0 X1
  go_wp2_with fail
  go_cut [8] from 9 to 55 (fun v wx => v = .bool false ∧ Hid (KB w wx (.string (tx X)) (.string (tx X)) (.bool false) (.bool q)))
  case first =>
    refine wp_region_any (by kernel_rfl) ?_
    change wpAny _ _ _ _ _ _ _ (World.drew _)
    refine wpAny_take (i := 0) (v := .string (tx x)) rfl (by kernel_rfl) (by kernel_rfl) (by kernel_rfl) (fun _ _ _ h => h) (Or.inl ⟨by rfl, fun W => by go_simp⟩) ?_
    simp only [Act.put, List.getElem_toArray, List.getElem_cons_zero, List.getElem_cons_succ, List.setIfInBounds_toArray, List.set_cons_zero, List.set_cons_succ]
    refine wpAny_take (i := 2) (v := .string (tx x)) rfl (by kernel_rfl) (by kernel_rfl) (by kernel_rfl) (fun _ _ _ h => h) (Or.inl ⟨by rfl, fun W => by go_simp⟩) ?_
    simp only [Act.put, List.getElem_toArray, List.getElem_cons_zero, List.getElem_cons_succ, List.setIfInBounds_toArray, List.set_cons_zero, List.set_cons_succ]
    refine wpAny_take (i := 4) (v := .string s) rfl (by kernel_rfl) (by kernel_rfl) (by kernel_rfl) (fun _ _ _ h => h) (Or.inl ⟨by rfl, fun W => by go_simp⟩) ?_
    simp only [Act.put, List.getElem_toArray, List.getElem_cons_zero, List.getElem_cons_succ, List.setIfInBounds_toArray, List.set_cons_zero, List.set_cons_succ]
    refine wpAny_take (i := 5) (v := .int .u8 (s[0].toNat : Int)) rfl (by kernel_rfl) (by kernel_rfl) (by kernel_rfl) (fun _ _ _ h => h) (Or.inl ⟨by rfl, fun W => by go_simp⟩) ?_
    simp only [Act.put, List.getElem_toArray, List.getElem_cons_zero, List.getElem_cons_succ, List.setIfInBounds_toArray, List.set_cons_zero, List.set_cons_succ]
    refine wpAny_take (i := 6) (v := .bool false) rfl (by kernel_rfl) (by kernel_rfl) (by kernel_rfl) (fun _ _ _ h => h) (Or.inl ⟨by rfl, fun W => by go_simp⟩) ?_
    simp only [Act.put, List.getElem_toArray, List.getElem_cons_zero, List.getElem_cons_succ, List.setIfInBounds_toArray, List.set_cons_zero, List.set_cons_succ]
    refine wpAny_take (i := 7) (v := .string s) rfl (by kernel_rfl) (by kernel_rfl) (by kernel_rfl) (fun _ _ _ h => h) (Or.inl ⟨by rfl, fun W => by go_simp⟩) ?_
    simp only [Act.put, List.getElem_toArray, List.getElem_cons_zero, List.getElem_cons_succ, List.setIfInBounds_toArray, List.set_cons_zero, List.set_cons_succ]
    refine wpAny_take (i := 8) (v := .int .i64 (i : Int)) rfl (by kernel_rfl) (by kernel_rfl) (by kernel_rfl) (fun _ _ _ h => h) (Or.inl ⟨by rfl, fun W => by go_simp⟩) ?_
    simp only [Act.put, List.getElem_toArray, List.getElem_cons_zero, List.getElem_cons_succ, List.setIfInBounds_toArray, List.set_cons_zero, List.set_cons_succ]
    refine wpAny_take (i := 9) (v := .int .u8 (s[i].toNat : Int)) rfl (by kernel_rfl) (by kernel_rfl) (by kernel_rfl) (fun _ _ _ h => h) (Or.inl ⟨by rfl, fun W => by go_simp⟩) ?_
    simp only [Act.put, List.getElem_toArray, List.getElem_cons_zero, List.getElem_cons_succ, List.setIfInBounds_toArray, List.set_cons_zero, List.set_cons_succ]
    refine wpAny_take (i := 10) (v := .bool q) rfl (by kernel_rfl) (by kernel_rfl) (by kernel_rfl) (fun _ _ _ h => h) (Or.inl ⟨by rfl, fun W => by go_simp⟩) ?_
    simp only [Act.put, List.getElem_toArray, List.getElem_cons_zero, List.getElem_cons_succ, List.setIfInBounds_toArray, List.set_cons_zero, List.set_cons_succ]
    refine wpAny_ready (rs := [1]) (by kernel_rfl) (by simp) ?_
    refine AllReady.cons rfl (fun K hK => ?_) AllReady.nil
    go_simp
    go_wp2_with (go_at_call 63; refine (HX.out _).mono ?_; rintro e w4 ⟨rfl, b4⟩)
    have X4 := KB.stepd X3 b4
    refine wpAny_ready (rs := [3]) (by kernel_rfl) (by simp) ?_
    refine AllReady.cons rfl (fun K hK => ?_) AllReady.nil
    go_simp
    go_wp2_with (go_at_call 63; refine (HX.out _).mono ?_; rintro e w5 ⟨rfl, b5⟩)
    have X5 := KB.step X4 b5
    refine wpAny_take (i := 11) (v := .agg #[.string (tx X), .string (tx X), .bool false, .bool q]) rfl (by kernel_rfl) (by kernel_rfl) (by kernel_rfl) (fun _ _ _ h => h) (Or.inl ⟨by rfl, fun W => by go_simp⟩) ?_
    simp only [Act.put, List.getElem_toArray, List.getElem_cons_zero, List.getElem_cons_succ, List.setIfInBounds_toArray, List.set_cons_zero, List.set_cons_succ]
    obtain ⟨k0, k1, k2, k3⟩ := KB.rd X5
    obtain ⟨f0, f1, f2, f3⟩ := KB.fz X5
    have X6 := KB.put X5 (.string (tx X)) (.string (tx X)) (.bool false) (.bool q)
    refine wpAny_ready (rs := [12]) (by kernel_rfl) (by simp) ?_
    refine AllReady.cons rfl (fun K hK => ?_) AllReady.nil
    go_simp
    refine hK _ _ ?_
    clear hK K
    refine wpAny_done (by kernel_rfl) ?_ _
    go_wp2_with fail
    go_meet
    exact ⟨rfl, X6⟩
  case rest =>
  rename_i W6
  obtain ⟨rfl, X6⟩ := hcut
  obtain ⟨k0, k1, k2, k3⟩ := KB.rd X6
  obtain ⟨f0, f1, f2, f3⟩ := KB.fz X6
  obtain ⟨e0, e1, e2, e3⟩ := KB.eqs X6
  go_wp2_with fail
  go_region
  all_goals (
    go_wp2_with fail
    refine bodyPost_ret (v := .tuple #[spV ⟨X, X, false, q⟩, .string (s.extract (i + 1) s.size), .bool false]) ?_ rfl ⟨rfl, Lib.hid X6.out.2.drew⟩
    simp [results, Tryz.results43, go_sem, k0, k1, k2, k3])

set_option maxRecDepth 100000 in
set_option maxHeartbeats 4000000 in
theorem cut_yf1 (s : ByteArray) (w : World) (hs : s.size ≤ 1000) (i : Nat) (hi : Lib.indexAny (bs s) [93, 41] = i) (hR : isR (bs s) = true) (h1 : 1 ≤ i) (h2 : i < s.size) (x y : List UInt8) (q : Bool) (hx : x.length ≤ 1000) (hc : Lib.cut (bs (s.extract 1 i)) [44] = (x, y, false)) (hp : (((s[0]'(by omega)).toNat : Int) == 91) = true) (hq : ((s[i].toNat : Int) == 93) = q) :
    Calls Tryz.prog 43 #[.string s] w fun e w' => e = .returned (.tuple #[spV ⟨Lib.trimB x 32, Lib.trimB x 32, true, q⟩, .string (s.extract (i + 1) s.size), .bool q]) ∧ Hid (Below w.heap.size w w') := by
  have hs' : s.size ≤ 100000 := by omega
  have HF := Lib.hid hi
  have HR := Lib.hid hR
  have HC := Lib.hid hc
  have X0 := Lib.hid (KB.new w (.string ⟨#[]⟩) (.string ⟨#[]⟩) (.bool false) (.bool false))
  have hms : (s.extract 1 i).size ≤ 100000 := by rw [extract_size s 1 i (by omega)]; omega
  have HX := Lib.hid (fun W => unblank_c x W (by omega))
  generalize Lib.trimB x 32 = X at *
  clear hi hR hc hx 
  have h0s : 0 < s.size := by omega
  have hi1 : IntKind.i64.wrap ((i : Int) + 1) = (i : Int) + 1 := wrap_i1 (by omega) (by omega)
  go_enter Tryz.func43, Tryz.ntmps43
  go_wp2_with fail
  refine (any_c s _ hs' (i : Int) HF.out).mono ?_
  rintro e w1 ⟨rfl, b1⟩
  have X1 := KB.step X0 b1
  go_wp2_with fail
  refine (Is_c s _ true HR.out).mono ?_
  rintro e w2 ⟨rfl, rfl⟩
  go_wp2_with fail
  refine (Cut_c (s.extract 1 i) _ hms x y false HC.out).mono ?_
  rintro e w3 ⟨rfl, b3⟩
  have X3 := KB.step X1 b3
  clear b1 b3 X0 X1
  go_wp2_with fail
  go_cut [8] from 9 to 55 (fun v wx => v = .bool false ∧ Hid (KB w wx (.string (tx X)) (.string (tx X)) (.bool true) (.bool q)))
  case first =>
    refine wp_region_any (by kernel_rfl) ?_
    change wpAny _ _ _ _ _ _ _ (World.drew _)
    refine wpAny_take (i := 0) (v := .string (tx x)) rfl (by kernel_rfl) (by kernel_rfl) (by kernel_rfl) (fun _ _ _ h => h) (Or.inl ⟨by rfl, fun W => by go_simp⟩) ?_
    simp only [Act.put, List.getElem_toArray, List.getElem_cons_zero, List.getElem_cons_succ, List.setIfInBounds_toArray, List.set_cons_zero, List.set_cons_succ]
    refine wpAny_take (i := 2) (v := .string (tx x)) rfl (by kernel_rfl) (by kernel_rfl) (by kernel_rfl) (fun _ _ _ h => h) (Or.inl ⟨by rfl, fun W => by go_simp⟩) ?_
    simp only [Act.put, List.getElem_toArray, List.getElem_cons_zero, List.getElem_cons_succ, List.setIfInBounds_toArray, List.set_cons_zero, List.set_cons_succ]
    refine wpAny_take (i := 4) (v := .string s) rfl (by kernel_rfl) (by kernel_rfl) (by kernel_rfl) (fun _ _ _ h => h) (Or.inl ⟨by rfl, fun W => by go_simp⟩) ?_
    simp only [Act.put, List.getElem_toArray, List.getElem_cons_zero, List.getElem_cons_succ, List.setIfInBounds_toArray, List.set_cons_zero, List.set_cons_succ]
    refine wpAny_take (i := 5) (v := .int .u8 (s[0].toNat : Int)) rfl (by kernel_rfl) (by kernel_rfl) (by kernel_rfl) (fun _ _ _ h => h) (Or.inl ⟨by rfl, fun W => by go_simp⟩) ?_
    simp only [Act.put, List.getElem_toArray, List.getElem_cons_zero, List.getElem_cons_succ, List.setIfInBounds_toArray, List.set_cons_zero, List.set_cons_succ]
    refine wpAny_take (i := 6) (v := .bool true) rfl (by kernel_rfl) (by kernel_rfl) (by kernel_rfl) (fun _ _ _ h => h) (Or.inl ⟨by rfl, fun W => by go_simp⟩) ?_
    simp only [Act.put, List.getElem_toArray, List.getElem_cons_zero, List.getElem_cons_succ, List.setIfInBounds_toArray, List.set_cons_zero, List.set_cons_succ]
    refine wpAny_take (i := 7) (v := .string s) rfl (by kernel_rfl) (by kernel_rfl) (by kernel_rfl) (fun _ _ _ h => h) (Or.inl ⟨by rfl, fun W => by go_simp⟩) ?_
    simp only [Act.put, List.getElem_toArray, List.getElem_cons_zero, List.getElem_cons_succ, List.setIfInBounds_toArray, List.set_cons_zero, List.set_cons_succ]
    refine wpAny_take (i := 8) (v := .int .i64 (i : Int)) rfl (by kernel_rfl) (by kernel_rfl) (by kernel_rfl) (fun _ _ _ h => h) (Or.inl ⟨by rfl, fun W => by go_simp⟩) ?_
    simp only [Act.put, List.getElem_toArray, List.getElem_cons_zero, List.getElem_cons_succ, List.setIfInBounds_toArray, List.set_cons_zero, List.set_cons_succ]
    refine wpAny_take (i := 9) (v := .int .u8 (s[i].toNat : Int)) rfl (by kernel_rfl) (by kernel_rfl) (by kernel_rfl) (fun _ _ _ h => h) (Or.inl ⟨by rfl, fun W => by go_simp⟩) ?_
    simp only [Act.put, List.getElem_toArray, List.getElem_cons_zero, List.getElem_cons_succ, List.setIfInBounds_toArray, List.set_cons_zero, List.set_cons_succ]
    refine wpAny_take (i := 10) (v := .bool q) rfl (by kernel_rfl) (by kernel_rfl) (by kernel_rfl) (fun _ _ _ h => h) (Or.inl ⟨by rfl, fun W => by go_simp⟩) ?_
    simp only [Act.put, List.getElem_toArray, List.getElem_cons_zero, List.getElem_cons_succ, List.setIfInBounds_toArray, List.set_cons_zero, List.set_cons_succ]
    refine wpAny_ready (rs := [1]) (by kernel_rfl) (by simp) ?_
    refine AllReady.cons rfl (fun K hK => ?_) AllReady.nil
    go_simp
    go_wp2_with (go_at_call 63; refine (HX.out _).mono ?_; rintro e w4 ⟨rfl, b4⟩)
    have X4 := KB.stepd X3 b4
    refine wpAny_ready (rs := [3]) (by kernel_rfl) (by simp) ?_
    refine AllReady.cons rfl (fun K hK => ?_) AllReady.nil
    go_simp
    go_wp2_with (go_at_call 63; refine (HX.out _).mono ?_; rintro e w5 ⟨rfl, b5⟩)
    have X5 := KB.step X4 b5
    refine wpAny_take (i := 11) (v := .agg #[.string (tx X), .string (tx X), .bool true, .bool q]) rfl (by kernel_rfl) (by kernel_rfl) (by kernel_rfl) (fun _ _ _ h => h) (Or.inl ⟨by rfl, fun W => by go_simp⟩) ?_
    simp only [Act.put, List.getElem_toArray, List.getElem_cons_zero, List.getElem_cons_succ, List.setIfInBounds_toArray, List.set_cons_zero, List.set_cons_succ]
    obtain ⟨k0, k1, k2, k3⟩ := KB.rd X5
    obtain ⟨f0, f1, f2, f3⟩ := KB.fz X5
    have X6 := KB.put X5 (.string (tx X)) (.string (tx X)) (.bool true) (.bool q)
    refine wpAny_ready (rs := [12]) (by kernel_rfl) (by simp) ?_
    refine AllReady.cons rfl (fun K hK => ?_) AllReady.nil
    go_simp
    refine hK _ _ ?_
    clear hK K
    refine wpAny_done (by kernel_rfl) ?_ _
    go_wp2_with fail
    go_meet
    exact ⟨rfl, X6⟩
  case rest =>
  rename_i W6
  obtain ⟨rfl, X6⟩ := hcut
  obtain ⟨k0, k1, k2, k3⟩ := KB.rd X6
  obtain ⟨f0, f1, f2, f3⟩ := KB.fz X6
  obtain ⟨e0, e1, e2, e3⟩ := KB.eqs X6
  go_wp2_with fail
  go_region
  all_goals (
    go_wp2_with fail
    refine bodyPost_ret (v := .tuple #[spV ⟨X, X, true, q⟩, .string (s.extract (i + 1) s.size), .bool q]) ?_ rfl ⟨rfl, Lib.hid X6.out.2.drew⟩
    simp [results, Tryz.results43, go_sem, k0, k1, k2, k3])
end Go.Proofs.YtkphkcpckgdgaaaGreatDoor
