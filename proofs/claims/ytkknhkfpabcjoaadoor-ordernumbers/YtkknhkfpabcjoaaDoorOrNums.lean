/-
  The walk of OrderNumbers.
-/
import Derived.Test.YtkknhkfpabcjoaaDoorOrAwake
import Derived.Test.YtkknhkfpabcjoaaDoorOrDots
import Derived.Test.YtkknhkfpabcjoaaDoorGnRow
namespace Nwl
open Go
theorem drop_head (xs : List Nat) (k : Nat) : (xs.drop k).headD 0 = xs.getD k 0 := by
  rcases Nat.lt_or_ge k xs.length with h | h
  · rw [List.drop_eq_getElem_cons h, List.getD_eq_getElem?_getD, List.getElem?_eq_getElem h]; rfl
  · rw [List.drop_of_length_le h, List.getD_eq_getElem?_getD, List.getElem?_eq_none h]; rfl
/-- from place k on -/
def fromN (xs ys : List Nat) (k : Nat) : Int := wordsC ((xs.drop k).map numZ) ((ys.drop k).map numZ)
theorem fromN_step (xs ys : List Nat) (k : Nat) (hx : ∀ x ∈ xs, x < 10 ^ 9) (hy : ∀ x ∈ ys, x < 10 ^ 9) : fromN xs ys k = thenI (Lib.compareInt (xs.getD k 0) (ys.getD k 0)) (fromN xs ys (k + 1)) := by
  unfold fromN
  rw [nums_step _ _ (fun x h => hx x (List.mem_of_mem_drop h)) (fun x h => hy x (List.mem_of_mem_drop h)), drop_head, drop_head, List.tail_drop, List.tail_drop]
theorem fromN_end (xs ys : List Nat) (k : Nat) (h1 : xs.length ≤ k) (h2 : ys.length ≤ k) : fromN xs ys k = 0 := by
  unfold fromN
  rw [List.drop_of_length_le h1, List.drop_of_length_le h2]; rfl
theorem one_ahead (xs ys : List Nat) (hx : ∀ x ∈ xs, x < 10 ^ 9) (hy : ∀ x ∈ ys, x < 10 ^ 9) : cmpV (dotL (1 :: xs)) (dotL (1 :: ys)) = fromN xs ys 0 := by
  have h1 : ∀ l : List Nat, (∀ x ∈ l, x < 10 ^ 9) → ∀ x ∈ 1 :: l, x < 10 ^ 9 := by
    intro l hl x hx
    rcases List.mem_cons.1 hx with rfl | hx
    · decide
    · exact hl x hx
  rw [dots_cmp _ _ (by simp) (by simp) (h1 xs hx) (h1 ys hy), List.map_cons, List.map_cons, wordsC_cons, ord_z.refl, thenI_zero]
  rfl
theorem dotL_len : ∀ xs : List Nat, (dotL xs).length ≤ xs.length * 10
  | [] => Nat.le_refl _
  | [x] => by show (decF 9 x).length ≤ _; have := decF_le 9 x; simp; omega
  | x :: y :: r => by
    have ih := dotL_len (y :: r)
    show (decF 9 x ++ 46 :: dotL (y :: r)).length ≤ _
    have := decF_le 9 x
    simp at ih ⊢
    omega
end Nwl
namespace Go.Proofs.YtkknhkfpabcjoaaDoor
open Nwl
open Go.RowKit Go.Maps
set_option linter.unusedVariables false

/-- the first five numbers of a slice, made small -/
def IntR (w : World) (A : Option Addr) (n : Nat) (xs : List Nat) : Prop := xs.length = min n 5 ∧ ∀ j (hj : j < xs.length), xs[j] < 2000 ∧ ∃ g o z, A = some ⟨g, o, none⟩ ∧ g < w.heap.size ∧ w.cell? ⟨g, o + j, none⟩ = some (.int .i64 z) ∧ wrap64 ((IntKind.u64.wrap z).tmod 2000) = (xs[j] : Int)
theorem intR_of {w : World} {A : Option Addr} {n : Nat} (h : ∀ j, j < n → ∃ b o z, A = some ⟨b, o, none⟩ ∧ b < w.heap.size ∧ w.cell? ⟨b, o + j, none⟩ = some (.int .i64 z)) : ∃ xs, IntR w A n xs := by
  have h2 : ∀ j, ∃ x : Nat, j < n → x < 2000 ∧ ∃ g o z, A = some ⟨g, o, none⟩ ∧ g < w.heap.size ∧ w.cell? ⟨g, o + j, none⟩ = some (.int .i64 z) ∧ wrap64 ((IntKind.u64.wrap z).tmod 2000) = (x : Int) := by
    intro j
    by_cases hj : j < n
    · obtain ⟨b, o, z, h1, h2, h3⟩ := h j hj
      obtain ⟨x, hx, hx2⟩ := idxN z 2000 (by decide) (by decide)
      exact ⟨x, fun _ => ⟨by omega, b, o, z, h1, h2, h3, hx⟩⟩
    · exact ⟨0, fun h => absurd h hj⟩
  refine ⟨(List.range (min n 5)).map fun j => Classical.choose (h2 j), by simp, fun j hj => ?_⟩
  simp only [List.length_map, List.length_range] at hj
  simp only [List.getElem_map, List.getElem_range]
  exact Classical.choose_spec (h2 j) (by omega)
theorem IntR.small {w : World} {A : Option Addr} {n : Nat} {xs : List Nat} (h : IntR w A n xs) : ∀ x ∈ xs, x < 10 ^ 9 := by
  intro x hx
  obtain ⟨j, hj, rfl⟩ := List.mem_iff_getElem.1 hx
  have := (h.2 j hj).1
  omega
theorem IntR.below {w w' : World} {A : Option Addr} {n : Nat} {xs : List Nat} (h : IntR w A n xs) (hb : Below w.heap.size w w') : IntR w' A n xs := by
  refine ⟨h.1, fun j hj => ?_⟩
  obtain ⟨h1, g, o, z, h2, h3, h4, h5⟩ := h.2 j hj
  exact ⟨h1, g, o, z, h2, Nat.lt_of_lt_of_le h3 hb.size, (hb.cell (p := ⟨g, o + j, none⟩) h3).trans h4, h5⟩

set_option maxRecDepth 100000 in
set_option maxHeartbeats 2000000 in
theorem numbers1_c (A : Option Addr) (n c : Nat) (xs : List Nat) (w : World) (h : IntR w A n xs) (hn : n ≤ maxLen) (T : List UInt8) (hT : dotL (1 :: xs) = T) :
    Calls Tryd.prog 23 #[.slice A n c] w fun e w' => e = .returned (.string (tx T)) ∧ Hid (Below w.heap.size w w') := by
  have H := Lib.hid h
  have HT := Lib.hid hT
  clear h hT
  unfold maxLen at hn
  go_enter Tryd.func23, Tryd.ntmps23
  go_wp2_with fail
  go_loopw [3, 4] (fun sv iv wr => ∃ k : Nat, k ≤ 5 ∧ k ≤ n ∧ sv = .string (tx (dotL (1 :: xs.take k))) ∧ iv = .int .i64 k ∧ Hid (Below w.heap.size w wr)) (fun _ iv _ => 5 - (intOf iv).toNat)
  case atStart => exact ⟨0, by omega, by omega, rfl, rfl, Lib.hid (Below.refl _ _)⟩
  case round =>
    obtain ⟨k, hk, hkn, rfl, rfl, hb⟩ := hrel
    by_cases hend : k = n ∨ k = 5
    · have HF : Hid (tx (dotL (1 :: xs.take k)) = tx T) := Lib.hid (by rw [← HT.out, List.take_of_length_le (by have := H.out.1; omega)])
      generalize tx (dotL (1 :: xs.take k)) = R at *
      rcases hend with rfl | rfl
      · go_wp2_with fail
        all_goals first
          | (exfalso; omega)
          | (go_ret
             exact ⟨by rw [HF.out]; rfl, hb⟩)
      · go_wp2_with fail
        all_goals first
          | (exfalso; omega)
          | (go_ret
             exact ⟨by rw [HF.out]; rfl, hb⟩)
    · have hlt : k < n := by omega
      have hl5 : k < 5 := by omega
      have hkl : k < xs.length := by have := H.out.1; omega
      obtain ⟨hs, g, o, z, rfl, hg, hc, hx⟩ := H.out.2 k hkl
      have hc' : wr.cell? ⟨g, o + k, none⟩ = some (.int .i64 z) := (hb.out.cell (p := ⟨g, o + k, none⟩) hg).trans hc
      obtain ⟨x, hxe⟩ : ∃ x, xs[k] = x := ⟨_, rfl⟩
      rw [hxe] at hs hx
      obtain ⟨X, hX⟩ : ∃ X, decF 9 x = X := ⟨_, rfl⟩
      obtain ⟨R, hR⟩ : ∃ R, dotL (1 :: xs.take k) = R := ⟨_, rfl⟩
      obtain ⟨R1, hR1⟩ : ∃ P, R ++ [46] = P := ⟨_, rfl⟩
      obtain ⟨R2, hR2⟩ : ∃ P, R1 ++ X = P := ⟨_, rfl⟩
      have hup : dotL (1 :: xs.take (k + 1)) = R2 := by
        rw [← hR2, ← hR1, ← hR, ← hX, ← hxe, ← List.take_append_getElem hkl]
        exact dotL_snoc (1 :: xs.take k) _ (by simp)
      have lR : R.length ≤ 60 := by
        rw [← hR]
        have := dotL_len (1 :: xs.take k)
        simp at this
        omega
      have lX : X.length ≤ 9 := by rw [← hX]; exact decF_le 9 _
      have sR : (tx R).size ≤ 60 := by rw [tx_size]; exact lR
      have sX : (tx X).size ≤ 9 := by rw [tx_size]; exact lX
      have sR1 : (tx R1).size ≤ 61 := by rw [tx_size, ← hR1]; simp; omega
      have c1 : tx R ++ ⟨#[46]⟩ = tx R1 := by rw [← hR1]; exact txA _ [46]
      have c2 : tx R1 ++ tx X = tx R2 := by rw [txA, hR2]
      have HU := Lib.hid hup
      have HX := Lib.hid hX
      have HXX := Lib.hid hx
      have hx9 : Hid (x < 10 ^ 9) := Lib.hid (by omega)
      rw [hR]
      clear hR hR1 hR2 hup lR lX hX hx hxe hs hc hend hg hkl
      go_wp2_with fail
      simp only [HXX.out]
      refine (Digits_c 9 x _ hx9.out (by decide) (by decide)).mono ?_
      rw [HX.out]
      rintro e w1 ⟨rfl, b1⟩
      have B1 := Lib.hid (hb.out.trans (b1.mono hb.out.size))
      clear b1 hb
      go_wp2_with fail
      go_roundw
      case rel => exact ⟨k + 1, by omega, by omega, by rw [HU.out], by go_num, B1⟩
      case measure => simp [intOf]; omega

set_option maxRecDepth 100000 in
set_option maxHeartbeats 4000000 in
theorem OrderNumbers_walk (A1 : Option Addr) (n1 c1 : Nat) (A2 : Option Addr) (n2 c2 : Nat) (w : World) (m1 : n1 ≤ maxLen) (h1 : ∀ j, j < n1 → ∃ b o z, A1 = some ⟨b, o, none⟩ ∧ b < w.heap.size ∧ w.cell? ⟨b, o + j, none⟩ = some (.int .i64 z)) (m2 : n2 ≤ maxLen) (h2 : ∀ j, j < n2 → ∃ b o z, A2 = some ⟨b, o, none⟩ ∧ b < w.heap.size ∧ w.cell? ⟨b, o + j, none⟩ = some (.int .i64 z)) (hg : Glob w) :
    Calls Tryd.prog 6 #[.slice A1 n1 c1, .slice A2 n2 c2] w fun e w' => e = .returned (.bool true) ∧ Below w.heap.size w w' := by
  obtain ⟨xs, hX⟩ := intR_of h1
  obtain ⟨ys, hY⟩ := intR_of h2
  clear h1 h2 hg
  obtain ⟨F, hF⟩ : ∃ F, fromN xs ys 0 = F := ⟨_, rfl⟩
  obtain ⟨S, hS⟩ : ∃ S, dotL (1 :: xs) = S := ⟨_, rfl⟩
  obtain ⟨T, hT⟩ : ∃ T, dotL (1 :: ys) = T := ⟨_, rfl⟩
  have HC : Hid (cmpV (bs (tx S)) (bs (tx T)) = F) := Lib.hid (by rw [bs_tx, bs_tx, ← hS, ← hT, one_ahead xs ys hX.small hY.small, hF])
  have KS : Hid ((tx S).size ≤ 1000 ∧ (tx T).size ≤ 1000) := Lib.hid (by
    have a1 := dotL_len (1 :: xs)
    have a2 := dotL_len (1 :: ys)
    have := hX.1
    have := hY.1
    rw [tx_size, tx_size, ← hS, ← hT]
    simp at a1 a2
    omega)
  have HX := Lib.hid hX
  have HY := Lib.hid hY
  have HS := Lib.hid hS
  have HT := Lib.hid hT
  have HF := Lib.hid hF
  have hm1 := m1
  have hm2 := m2
  unfold maxLen at hm1 hm2
  have M1 := Lib.hid m1
  have M2 := Lib.hid m2
  clear hX hY hS hT hF m1 m2
  go_enter Tryd.func6, Tryd.ntmps6
  go_wp2_with fail
  go_loopw [6, 7] (fun qv iv wr => ∃ (k : Nat) (q : Int), k ≤ 5 ∧ qv = .int .i64 q ∧ iv = .int .i64 k ∧ w = wr ∧ Hid (q = 0 ∧ fromN xs ys k = F ∨ q ≠ 0 ∧ q = F)) (fun _ iv _ => 5 - (intOf iv).toNat)
  case atStart => exact ⟨0, 0, by omega, rfl, rfl, rfl, Lib.hid (Or.inl ⟨rfl, HF.out⟩)⟩
  case round =>
    obtain ⟨k, q, hk, rfl, rfl, rfl, hq⟩ := hrel
    by_cases hend : k = 5 ∨ q ≠ 0
    · have hqF : q = F := by
        rcases hq.out with ⟨e1, e2⟩ | ⟨_, e2⟩
        · rcases hend with rfl | h
          · rw [e1, ← e2, fromN_end _ _ _ (by have := HX.out.1; omega) (by have := HY.out.1; omega)]
          · exact absurd e1 h
        · exact e2
      clear hq
      subst hqF
      have hend2 : k = 5 ∨ (k < 5 ∧ (q == 0) = false) := by
        rcases Nat.lt_or_ge k 5 with h | h
        · refine .inr ⟨h, ?_⟩
          rw [beq_eq_false_iff_ne]
          rcases hend with h' | h'
          · omega
          · exact h'
        · exact .inl (by omega)
      clear hend
      rcases hend2 with rfl | ⟨hk5, hq0⟩
      all_goals
        go_wp2_with fail
        refine (awake6_c _).mono ?_
        rintro e w1 ⟨rfl, B1⟩
        go_wp2_with fail
        refine (numbers1_c A1 n1 c1 xs _ (HX.out.below B1.out) M1.out S HS.out).mono ?_
        rintro e w2 ⟨rfl, b2⟩
        have B2 := Lib.hid (B1.out.trans (b2.out.mono B1.out.size))
        clear b2
        go_wp2_with fail
        refine (numbers1_c A2 n2 c2 ys _ (HY.out.below B2.out) M2.out T HT.out).mono ?_
        rintro e w3 ⟨rfl, b3⟩
        have B3 := Lib.hid (B2.out.trans (b3.out.mono B2.out.size))
        clear b3
        go_wp2_with fail
        refine (Compare_c (tx S) (tx T) _ KS.out.1 KS.out.2 q HC.out).mono ?_
        rintro e w4 ⟨rfl, b4⟩
        have B4 := Lib.hid (B3.out.trans (b4.out.mono B3.out.size))
        clear b4
        go_wp2_with fail
        go_ret
        exact ⟨rfl, B4.out⟩
    · have hk5 : k < 5 := by omega
      obtain rfl : q = 0 := by
        apply Classical.byContradiction
        intro h
        exact hend (.inr h)
      have hgo : fromN xs ys k = F := by
        rcases hq.out with ⟨_, e2⟩ | ⟨e1, _⟩
        · exact e2
        · exact absurd rfl e1
      rw [fromN_step xs ys k HX.out.small HY.out.small] at hgo
      clear hq hend
      have lx := HX.out.1
      have ly := HY.out.1
      have px : (¬ k < n1 ∧ xs.getD k 0 = 0) ∨ (k < n1 ∧ ∃ g o z, A1 = some ⟨g, o, none⟩ ∧ w.cell? ⟨g, o + k, none⟩ = some (.int .i64 z) ∧ wrap64 ((IntKind.u64.wrap z).tmod 2000) = (xs.getD k 0 : Nat)) := by
        by_cases p : k < n1
        · have hkl : k < xs.length := by omega
          obtain ⟨_, g, o, z, e1, _, e3, e4⟩ := HX.out.2 k hkl
          refine .inr ⟨p, g, o, z, e1, e3, ?_⟩
          rw [e4, List.getD_eq_getElem?_getD, List.getElem?_eq_getElem hkl]; rfl
        · refine .inl ⟨p, ?_⟩
          rw [List.getD_eq_getElem?_getD, List.getElem?_eq_none (by omega)]; rfl
      have py : (¬ k < n2 ∧ ys.getD k 0 = 0) ∨ (k < n2 ∧ ∃ g o z, A2 = some ⟨g, o, none⟩ ∧ w.cell? ⟨g, o + k, none⟩ = some (.int .i64 z) ∧ wrap64 ((IntKind.u64.wrap z).tmod 2000) = (ys.getD k 0 : Nat)) := by
        by_cases p : k < n2
        · have hkl : k < ys.length := by omega
          obtain ⟨_, g, o, z, e1, _, e3, e4⟩ := HY.out.2 k hkl
          refine .inr ⟨p, g, o, z, e1, e3, ?_⟩
          rw [e4, List.getD_eq_getElem?_getD, List.getElem?_eq_getElem hkl]; rfl
        · refine .inl ⟨p, ?_⟩
          rw [List.getD_eq_getElem?_getD, List.getElem?_eq_none (by omega)]; rfl
      generalize xs.getD k 0 = x at *
      generalize ys.getD k 0 = y at *
      have hq3 : ∃ q : Int, Hid (q = 0 ∧ fromN xs ys (k + 1) = F ∨ q ≠ 0 ∧ q = F) ∧ (x < y ∧ q = -1 ∨ x = y ∧ q = 0 ∨ y < x ∧ q = 1) := by
        rcases Nat.lt_trichotomy x y with h | h | h
        · rw [ci_lt (by omega)] at hgo
          exact ⟨-1, Lib.hid (.inr ⟨by decide, hgo⟩), .inl ⟨h, rfl⟩⟩
        · rw [ci_eq (by omega)] at hgo
          exact ⟨0, Lib.hid (.inl ⟨rfl, hgo⟩), .inr (.inl ⟨h, rfl⟩)⟩
        · rw [ci_gt (by omega)] at hgo
          exact ⟨1, Lib.hid (.inr ⟨by decide, hgo⟩), .inr (.inr ⟨h, rfl⟩)⟩
      obtain ⟨q, HQ, hq⟩ := hq3
      clear hgo lx ly
      rcases px with ⟨p1, rfl⟩ | ⟨p1, g1, o1, z1, rfl, e1, f1⟩ <;> rcases py with ⟨p2, rfl⟩ | ⟨p2, g2, o2, z2, rfl, e2, f2⟩ <;> rcases hq with ⟨h3, rfl⟩ | ⟨h3, rfl⟩ | ⟨h3, rfl⟩
      all_goals try subst h3
      all_goals first
        | (exfalso; omega)
        | (go_wp2_with fail
           go_roundw
           case rel => exact ⟨k + 1, _, by omega, rfl, by go_num, rfl, HQ⟩
           case measure => simp [intOf]; omega)
        | (go_wp2_with fail
           go_roundw
           case rel => exact ⟨k + 1, _, by omega, rfl, by go_num, trivial, HQ⟩
           case measure => simp [intOf]; omega)
end Go.Proofs.YtkknhkfpabcjoaaDoor
