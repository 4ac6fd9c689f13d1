/-
  The document's own word.
-/
import Derived.Test.YthmlggglemnfgaaDoorWa
namespace Go.Proofs.YthmlggglemnfgaaDoor
open Nwl
open Go.RowKit Go.Maps
set_option linter.unusedVariables false

theorem box_two_on {w w1 : World} {o : Obj} {t : TypeId} {x y : Value} (h : Below ((w.alloc o).alloc (.cells #[x, y] t)).heap.size ((w.alloc o).alloc (.cells #[x, y] t)) w1) : w1.cell? ⟨w.heap.size + 1, 0, none⟩ = some x ∧ w1.cell? ⟨w.heap.size + 1, 1, none⟩ = some y ∧ w1.frozen? ⟨w.heap.size + 1, 0, none⟩ = false ∧ w1.frozen? ⟨w.heap.size + 1, 1, none⟩ = false ∧ Below w.heap.size w w1 := by
  have h2 := box_two h
  rw [show (w.alloc o).heap.size = w.heap.size + 1 by simp] at h2
  obtain ⟨c0, c1, f0, f1, hb⟩ := h2
  exact ⟨c0, c1, f0, f1, ((Below.refl w.heap.size w).alloc (Nat.le_refl _) o).trans (hb.mono (by omega))⟩

set_option maxRecDepth 100000 in
set_option maxHeartbeats 2000000 in
theorem refword_num (s : ByteArray) (d n : Bool) (w : World) (hs : s.size ≤ maxLen) (r : Wd) (hr : numW (bs s) d = r) (h0 : s.size = 0 ∨ ∃ h : 0 < s.size, digitI s[0].toNat = true) :
    Calls Tryd.prog 67 #[.agg #[.string s, .bool d, .bool n]] w fun e w' => e = .returned (wdV r) ∧ Below w.heap.size w w' := by
  have HR := Lib.hid hr
  clear hr
  rcases h0 with h0 | ⟨h0, hc⟩
  · have he : s.toList = [] := toList_nil_of s h0
    clear h0
    go_enter Tryd.func67, Tryd.ntmps67
    go_wp2_with fail
    refine (refnumber_c s d n _ hs r HR.out).mono ?_
    rintro e w1 ⟨rfl, hb1⟩
    obtain ⟨c0, c1, f0, f1, hbel⟩ := box_two_on hb1
    have HB := Lib.hid hbel
    clear hb1 hbel
    go_wp2_with fail
    exact bodyPost_ret (v := wdV r) (by simp [results, Tryd.results67, go_sem, c0, c1]) rfl ⟨rfl, (HB.out.setCell (Nat.le_succ _) _).setCell (Nat.le_succ _) _⟩
  · have hne : ¬ s.toList = [] := toList_ne_of s (by omega)
    have hne2 : s.toList.isEmpty = false := by simpa using hne
    go_enter Tryd.func67, Tryd.ntmps67
    go_wp2_with (go_at_call 21; refine (refDigit_c _ _).mono ?_; rintro e w' ⟨rfl, rfl⟩)
    refine (refnumber_c s d n _ hs r HR.out).mono ?_
    rintro e w1 ⟨rfl, hb1⟩
    obtain ⟨c0, c1, f0, f1, hbel⟩ := box_two_on hb1
    have HB := Lib.hid hbel
    clear hb1 hbel
    go_wp2_with fail
    exact bodyPost_ret (v := wdV r) (by simp [results, Tryd.results67, go_sem, c0, c1]) rfl ⟨rfl, (HB.out.setCell (Nat.le_succ _) _).setCell (Nat.le_succ _) _⟩

theorem kind_ways (s : List UInt8) (n : Bool) (K : Nat) (hK : kindW s n = K) (h8 : ¬ K = 8) : (s = [97, 108, 112, 104, 97] ∧ K = 1) ∨ (s = [98, 101, 116, 97] ∧ K = 2) ∨ (s = [109, 105, 108, 101, 115, 116, 111, 110, 101] ∧ K = 3) ∨ (s = [114, 99] ∧ K = 4) ∨ (s = [99, 114] ∧ K = 4) ∨ (s = [115, 110, 97, 112, 115, 104, 111, 116] ∧ K = 5) ∨ (s = [103, 97] ∧ K = 6) ∨ (s = [102, 105, 110, 97, 108] ∧ K = 6) ∨ (s = [114, 101, 108, 101, 97, 115, 101] ∧ K = 6) ∨ (s = [115, 112] ∧ K = 7) ∨ (n = true ∧ s = [97] ∧ K = 1) ∨ (n = true ∧ s = [98] ∧ K = 2) ∨ (n = true ∧ s = [109] ∧ K = 3) := by
  by_cases e0 : s = [97, 108, 112, 104, 97]
  · exact (.inl ⟨e0, by rw [← hK, e0]; cases n <;> rfl⟩)
  by_cases e1 : s = [98, 101, 116, 97]
  · exact .inr ((.inl ⟨e1, by rw [← hK, e1]; cases n <;> rfl⟩))
  by_cases e2 : s = [109, 105, 108, 101, 115, 116, 111, 110, 101]
  · exact .inr (.inr ((.inl ⟨e2, by rw [← hK, e2]; cases n <;> rfl⟩)))
  by_cases e3 : s = [114, 99]
  · exact .inr (.inr (.inr ((.inl ⟨e3, by rw [← hK, e3]; cases n <;> rfl⟩))))
  by_cases e4 : s = [99, 114]
  · exact .inr (.inr (.inr (.inr ((.inl ⟨e4, by rw [← hK, e4]; cases n <;> rfl⟩)))))
  by_cases e5 : s = [115, 110, 97, 112, 115, 104, 111, 116]
  · exact .inr (.inr (.inr (.inr (.inr ((.inl ⟨e5, by rw [← hK, e5]; cases n <;> rfl⟩))))))
  by_cases e6 : s = [103, 97]
  · exact .inr (.inr (.inr (.inr (.inr (.inr ((.inl ⟨e6, by rw [← hK, e6]; cases n <;> rfl⟩)))))))
  by_cases e7 : s = [102, 105, 110, 97, 108]
  · exact .inr (.inr (.inr (.inr (.inr (.inr (.inr ((.inl ⟨e7, by rw [← hK, e7]; cases n <;> rfl⟩))))))))
  by_cases e8 : s = [114, 101, 108, 101, 97, 115, 101]
  · exact .inr (.inr (.inr (.inr (.inr (.inr (.inr (.inr ((.inl ⟨e8, by rw [← hK, e8]; cases n <;> rfl⟩)))))))))
  by_cases e9 : s = [115, 112]
  · exact .inr (.inr (.inr (.inr (.inr (.inr (.inr (.inr (.inr ((.inl ⟨e9, by rw [← hK, e9]; cases n <;> rfl⟩))))))))))
  have hn : namedK s = 8 := by unfold namedK; rw [if_neg e0, if_neg e1, if_neg e2, if_neg e3, if_neg e4, if_neg e5, if_neg e6, if_neg e7, if_neg e8, if_neg e9]
  unfold kindW at hK
  rw [hn] at hK
  cases n with
  | false => exact absurd hK.symm (by simpa using h8)
  | true =>
    have hK2 : shortK s = K := by simpa using hK
    unfold shortK at hK2
    by_cases a1 : s = [97]
    · rw [if_pos a1] at hK2; exact .inr (.inr (.inr (.inr (.inr (.inr (.inr (.inr (.inr (.inr ((.inl ⟨rfl, a1, hK2.symm⟩)))))))))))
    · rw [if_neg a1] at hK2
      by_cases a2 : s = [98]
      · rw [if_pos a2] at hK2; exact .inr (.inr (.inr (.inr (.inr (.inr (.inr (.inr (.inr (.inr ((.inr (.inl ⟨rfl, a2, hK2.symm⟩))))))))))))
      · rw [if_neg a2] at hK2
        by_cases a3 : s = [109]
        · rw [if_pos a3] at hK2; exact .inr (.inr (.inr (.inr (.inr (.inr (.inr (.inr (.inr (.inr ((.inr (.inr ⟨rfl, a3, hK2.symm⟩))))))))))))
        · rw [if_neg a3] at hK2; exact absurd hK2.symm h8
theorem kind_oth (s : List UInt8) (n : Bool) (hK : kindW s n = 8) : ¬ s = [97, 108, 112, 104, 97] ∧ ¬ s = [98, 101, 116, 97] ∧ ¬ s = [109, 105, 108, 101, 115, 116, 111, 110, 101] ∧ ¬ s = [114, 99] ∧ ¬ s = [99, 114] ∧ ¬ s = [115, 110, 97, 112, 115, 104, 111, 116] ∧ ¬ s = [103, 97] ∧ ¬ s = [102, 105, 110, 97, 108] ∧ ¬ s = [114, 101, 108, 101, 97, 115, 101] ∧ ¬ s = [115, 112] ∧ (n = true → ¬ s = [97] ∧ ¬ s = [98] ∧ ¬ s = [109]) := by
  refine ⟨(fun e => by rw [e] at hK; cases n <;> cases hK), (fun e => by rw [e] at hK; cases n <;> cases hK), (fun e => by rw [e] at hK; cases n <;> cases hK), (fun e => by rw [e] at hK; cases n <;> cases hK), (fun e => by rw [e] at hK; cases n <;> cases hK), (fun e => by rw [e] at hK; cases n <;> cases hK), (fun e => by rw [e] at hK; cases n <;> cases hK), (fun e => by rw [e] at hK; cases n <;> cases hK), (fun e => by rw [e] at hK; cases n <;> cases hK), (fun e => by rw [e] at hK; cases n <;> cases hK), ?_⟩
  rintro rfl
  exact ⟨(fun e => by rw [e] at hK; cases hK), (fun e => by rw [e] at hK; cases hK), (fun e => by rw [e] at hK; cases hK)⟩
theorem eq_at {s : ByteArray} {l m : List UInt8} {b : Bool} (h : bs s = l) (hb : (l == m) = b) : (s.toList == m) = b := by rw [toList_bs, h]; exact hb
theorem ne_at {s : ByteArray} {m : List UInt8} (h : ¬ bs s = m) : (s.toList == m) = false := by rw [toList_bs, beq_eq_false_iff_ne]; exact h

set_option maxRecDepth 100000 in
set_option maxHeartbeats 1000000 in
theorem refword_0_false (s : ByteArray) (d : Bool) (w : World) (h0 : 0 < s.size) (hc : digitI s[0].toNat = false) (h : bs s = [97, 108, 112, 104, 97]) :
    Calls Tryd.prog 67 #[.agg #[.string s, .bool d, .bool false]] w fun e w' => e = .returned (.agg #[.int .i64 1, .string ⟨#[]⟩]) ∧ Below w.heap.size w w' := by
  have hne : ¬ s.toList = [] := toList_ne_of s (by omega)
  have hne2 : s.toList.isEmpty = false := by simpa using hne
  have f0 : (s.toList == [97, 108, 112, 104, 97]) = true := eq_at h rfl
  have f1 : (s.toList == [98, 101, 116, 97]) = false := eq_at h rfl
  have f2 : (s.toList == [109, 105, 108, 101, 115, 116, 111, 110, 101]) = false := eq_at h rfl
  have f3 : (s.toList == [114, 99]) = false := eq_at h rfl
  have f4 : (s.toList == [99, 114]) = false := eq_at h rfl
  have f5 : (s.toList == [115, 110, 97, 112, 115, 104, 111, 116]) = false := eq_at h rfl
  have f6 : (s.toList == [103, 97]) = false := eq_at h rfl
  have f7 : (s.toList == [102, 105, 110, 97, 108]) = false := eq_at h rfl
  have f8 : (s.toList == [114, 101, 108, 101, 97, 115, 101]) = false := eq_at h rfl
  have f9 : (s.toList == [115, 112]) = false := eq_at h rfl
  have f10 : (s.toList == [97]) = false := eq_at h rfl
  have f11 : (s.toList == [98]) = false := eq_at h rfl
  have f12 : (s.toList == [109]) = false := eq_at h rfl
  clear h
  go_enter Tryd.func67, Tryd.ntmps67
  go_wp2_with (go_at_call 21; refine (refDigit_c _ _).mono ?_; rintro e w' ⟨rfl, rfl⟩)
  exact bodyPost_ret (v := .agg #[.int .i64 1, .string ⟨#[]⟩]) (by simp [results, Tryd.results67, go_sem]) rfl ⟨rfl, ((Below.refl _ _).alloc (Nat.le_refl _) _).alloc (by simp) _⟩

set_option maxRecDepth 100000 in
set_option maxHeartbeats 1000000 in
theorem refword_0_true (s : ByteArray) (d : Bool) (w : World) (h0 : 0 < s.size) (hc : digitI s[0].toNat = false) (h : bs s = [97, 108, 112, 104, 97]) :
    Calls Tryd.prog 67 #[.agg #[.string s, .bool d, .bool true]] w fun e w' => e = .returned (.agg #[.int .i64 1, .string ⟨#[]⟩]) ∧ Below w.heap.size w w' := by
  have hne : ¬ s.toList = [] := toList_ne_of s (by omega)
  have hne2 : s.toList.isEmpty = false := by simpa using hne
  have f0 : (s.toList == [97, 108, 112, 104, 97]) = true := eq_at h rfl
  have f1 : (s.toList == [98, 101, 116, 97]) = false := eq_at h rfl
  have f2 : (s.toList == [109, 105, 108, 101, 115, 116, 111, 110, 101]) = false := eq_at h rfl
  have f3 : (s.toList == [114, 99]) = false := eq_at h rfl
  have f4 : (s.toList == [99, 114]) = false := eq_at h rfl
  have f5 : (s.toList == [115, 110, 97, 112, 115, 104, 111, 116]) = false := eq_at h rfl
  have f6 : (s.toList == [103, 97]) = false := eq_at h rfl
  have f7 : (s.toList == [102, 105, 110, 97, 108]) = false := eq_at h rfl
  have f8 : (s.toList == [114, 101, 108, 101, 97, 115, 101]) = false := eq_at h rfl
  have f9 : (s.toList == [115, 112]) = false := eq_at h rfl
  have f10 : (s.toList == [97]) = false := eq_at h rfl
  have f11 : (s.toList == [98]) = false := eq_at h rfl
  have f12 : (s.toList == [109]) = false := eq_at h rfl
  clear h
  go_enter Tryd.func67, Tryd.ntmps67
  go_wp2_with (go_at_call 21; refine (refDigit_c _ _).mono ?_; rintro e w' ⟨rfl, rfl⟩)
  exact bodyPost_ret (v := .agg #[.int .i64 1, .string ⟨#[]⟩]) (by simp [results, Tryd.results67, go_sem]) rfl ⟨rfl, ((Below.refl _ _).alloc (Nat.le_refl _) _).alloc (by simp) _⟩

set_option maxRecDepth 100000 in
set_option maxHeartbeats 1000000 in
theorem refword_1_false (s : ByteArray) (d : Bool) (w : World) (h0 : 0 < s.size) (hc : digitI s[0].toNat = false) (h : bs s = [98, 101, 116, 97]) :
    Calls Tryd.prog 67 #[.agg #[.string s, .bool d, .bool false]] w fun e w' => e = .returned (.agg #[.int .i64 2, .string ⟨#[]⟩]) ∧ Below w.heap.size w w' := by
  have hne : ¬ s.toList = [] := toList_ne_of s (by omega)
  have hne2 : s.toList.isEmpty = false := by simpa using hne
  have f0 : (s.toList == [97, 108, 112, 104, 97]) = false := eq_at h rfl
  have f1 : (s.toList == [98, 101, 116, 97]) = true := eq_at h rfl
  have f2 : (s.toList == [109, 105, 108, 101, 115, 116, 111, 110, 101]) = false := eq_at h rfl
  have f3 : (s.toList == [114, 99]) = false := eq_at h rfl
  have f4 : (s.toList == [99, 114]) = false := eq_at h rfl
  have f5 : (s.toList == [115, 110, 97, 112, 115, 104, 111, 116]) = false := eq_at h rfl
  have f6 : (s.toList == [103, 97]) = false := eq_at h rfl
  have f7 : (s.toList == [102, 105, 110, 97, 108]) = false := eq_at h rfl
  have f8 : (s.toList == [114, 101, 108, 101, 97, 115, 101]) = false := eq_at h rfl
  have f9 : (s.toList == [115, 112]) = false := eq_at h rfl
  have f10 : (s.toList == [97]) = false := eq_at h rfl
  have f11 : (s.toList == [98]) = false := eq_at h rfl
  have f12 : (s.toList == [109]) = false := eq_at h rfl
  clear h
  go_enter Tryd.func67, Tryd.ntmps67
  go_wp2_with (go_at_call 21; refine (refDigit_c _ _).mono ?_; rintro e w' ⟨rfl, rfl⟩)
  exact bodyPost_ret (v := .agg #[.int .i64 2, .string ⟨#[]⟩]) (by simp [results, Tryd.results67, go_sem]) rfl ⟨rfl, ((Below.refl _ _).alloc (Nat.le_refl _) _).alloc (by simp) _⟩

set_option maxRecDepth 100000 in
set_option maxHeartbeats 1000000 in
theorem refword_1_true (s : ByteArray) (d : Bool) (w : World) (h0 : 0 < s.size) (hc : digitI s[0].toNat = false) (h : bs s = [98, 101, 116, 97]) :
    Calls Tryd.prog 67 #[.agg #[.string s, .bool d, .bool true]] w fun e w' => e = .returned (.agg #[.int .i64 2, .string ⟨#[]⟩]) ∧ Below w.heap.size w w' := by
  have hne : ¬ s.toList = [] := toList_ne_of s (by omega)
  have hne2 : s.toList.isEmpty = false := by simpa using hne
  have f0 : (s.toList == [97, 108, 112, 104, 97]) = false := eq_at h rfl
  have f1 : (s.toList == [98, 101, 116, 97]) = true := eq_at h rfl
  have f2 : (s.toList == [109, 105, 108, 101, 115, 116, 111, 110, 101]) = false := eq_at h rfl
  have f3 : (s.toList == [114, 99]) = false := eq_at h rfl
  have f4 : (s.toList == [99, 114]) = false := eq_at h rfl
  have f5 : (s.toList == [115, 110, 97, 112, 115, 104, 111, 116]) = false := eq_at h rfl
  have f6 : (s.toList == [103, 97]) = false := eq_at h rfl
  have f7 : (s.toList == [102, 105, 110, 97, 108]) = false := eq_at h rfl
  have f8 : (s.toList == [114, 101, 108, 101, 97, 115, 101]) = false := eq_at h rfl
  have f9 : (s.toList == [115, 112]) = false := eq_at h rfl
  have f10 : (s.toList == [97]) = false := eq_at h rfl
  have f11 : (s.toList == [98]) = false := eq_at h rfl
  have f12 : (s.toList == [109]) = false := eq_at h rfl
  clear h
  go_enter Tryd.func67, Tryd.ntmps67
  go_wp2_with (go_at_call 21; refine (refDigit_c _ _).mono ?_; rintro e w' ⟨rfl, rfl⟩)
  exact bodyPost_ret (v := .agg #[.int .i64 2, .string ⟨#[]⟩]) (by simp [results, Tryd.results67, go_sem]) rfl ⟨rfl, ((Below.refl _ _).alloc (Nat.le_refl _) _).alloc (by simp) _⟩

set_option maxRecDepth 100000 in
set_option maxHeartbeats 1000000 in
theorem refword_2_false (s : ByteArray) (d : Bool) (w : World) (h0 : 0 < s.size) (hc : digitI s[0].toNat = false) (h : bs s = [109, 105, 108, 101, 115, 116, 111, 110, 101]) :
    Calls Tryd.prog 67 #[.agg #[.string s, .bool d, .bool false]] w fun e w' => e = .returned (.agg #[.int .i64 3, .string ⟨#[]⟩]) ∧ Below w.heap.size w w' := by
  have hne : ¬ s.toList = [] := toList_ne_of s (by omega)
  have hne2 : s.toList.isEmpty = false := by simpa using hne
  have f0 : (s.toList == [97, 108, 112, 104, 97]) = false := eq_at h rfl
  have f1 : (s.toList == [98, 101, 116, 97]) = false := eq_at h rfl
  have f2 : (s.toList == [109, 105, 108, 101, 115, 116, 111, 110, 101]) = true := eq_at h rfl
  have f3 : (s.toList == [114, 99]) = false := eq_at h rfl
  have f4 : (s.toList == [99, 114]) = false := eq_at h rfl
  have f5 : (s.toList == [115, 110, 97, 112, 115, 104, 111, 116]) = false := eq_at h rfl
  have f6 : (s.toList == [103, 97]) = false := eq_at h rfl
  have f7 : (s.toList == [102, 105, 110, 97, 108]) = false := eq_at h rfl
  have f8 : (s.toList == [114, 101, 108, 101, 97, 115, 101]) = false := eq_at h rfl
  have f9 : (s.toList == [115, 112]) = false := eq_at h rfl
  have f10 : (s.toList == [97]) = false := eq_at h rfl
  have f11 : (s.toList == [98]) = false := eq_at h rfl
  have f12 : (s.toList == [109]) = false := eq_at h rfl
  clear h
  go_enter Tryd.func67, Tryd.ntmps67
  go_wp2_with (go_at_call 21; refine (refDigit_c _ _).mono ?_; rintro e w' ⟨rfl, rfl⟩)
  exact bodyPost_ret (v := .agg #[.int .i64 3, .string ⟨#[]⟩]) (by simp [results, Tryd.results67, go_sem]) rfl ⟨rfl, ((Below.refl _ _).alloc (Nat.le_refl _) _).alloc (by simp) _⟩

set_option maxRecDepth 100000 in
set_option maxHeartbeats 1000000 in
theorem refword_2_true (s : ByteArray) (d : Bool) (w : World) (h0 : 0 < s.size) (hc : digitI s[0].toNat = false) (h : bs s = [109, 105, 108, 101, 115, 116, 111, 110, 101]) :
    Calls Tryd.prog 67 #[.agg #[.string s, .bool d, .bool true]] w fun e w' => e = .returned (.agg #[.int .i64 3, .string ⟨#[]⟩]) ∧ Below w.heap.size w w' := by
  have hne : ¬ s.toList = [] := toList_ne_of s (by omega)
  have hne2 : s.toList.isEmpty = false := by simpa using hne
  have f0 : (s.toList == [97, 108, 112, 104, 97]) = false := eq_at h rfl
  have f1 : (s.toList == [98, 101, 116, 97]) = false := eq_at h rfl
  have f2 : (s.toList == [109, 105, 108, 101, 115, 116, 111, 110, 101]) = true := eq_at h rfl
  have f3 : (s.toList == [114, 99]) = false := eq_at h rfl
  have f4 : (s.toList == [99, 114]) = false := eq_at h rfl
  have f5 : (s.toList == [115, 110, 97, 112, 115, 104, 111, 116]) = false := eq_at h rfl
  have f6 : (s.toList == [103, 97]) = false := eq_at h rfl
  have f7 : (s.toList == [102, 105, 110, 97, 108]) = false := eq_at h rfl
  have f8 : (s.toList == [114, 101, 108, 101, 97, 115, 101]) = false := eq_at h rfl
  have f9 : (s.toList == [115, 112]) = false := eq_at h rfl
  have f10 : (s.toList == [97]) = false := eq_at h rfl
  have f11 : (s.toList == [98]) = false := eq_at h rfl
  have f12 : (s.toList == [109]) = false := eq_at h rfl
  clear h
  go_enter Tryd.func67, Tryd.ntmps67
  go_wp2_with (go_at_call 21; refine (refDigit_c _ _).mono ?_; rintro e w' ⟨rfl, rfl⟩)
  exact bodyPost_ret (v := .agg #[.int .i64 3, .string ⟨#[]⟩]) (by simp [results, Tryd.results67, go_sem]) rfl ⟨rfl, ((Below.refl _ _).alloc (Nat.le_refl _) _).alloc (by simp) _⟩

set_option maxRecDepth 100000 in
set_option maxHeartbeats 1000000 in
theorem refword_3_false (s : ByteArray) (d : Bool) (w : World) (h0 : 0 < s.size) (hc : digitI s[0].toNat = false) (h : bs s = [114, 99]) :
    Calls Tryd.prog 67 #[.agg #[.string s, .bool d, .bool false]] w fun e w' => e = .returned (.agg #[.int .i64 4, .string ⟨#[]⟩]) ∧ Below w.heap.size w w' := by
  have hne : ¬ s.toList = [] := toList_ne_of s (by omega)
  have hne2 : s.toList.isEmpty = false := by simpa using hne
  have f0 : (s.toList == [97, 108, 112, 104, 97]) = false := eq_at h rfl
  have f1 : (s.toList == [98, 101, 116, 97]) = false := eq_at h rfl
  have f2 : (s.toList == [109, 105, 108, 101, 115, 116, 111, 110, 101]) = false := eq_at h rfl
  have f3 : (s.toList == [114, 99]) = true := eq_at h rfl
  have f4 : (s.toList == [99, 114]) = false := eq_at h rfl
  have f5 : (s.toList == [115, 110, 97, 112, 115, 104, 111, 116]) = false := eq_at h rfl
  have f6 : (s.toList == [103, 97]) = false := eq_at h rfl
  have f7 : (s.toList == [102, 105, 110, 97, 108]) = false := eq_at h rfl
  have f8 : (s.toList == [114, 101, 108, 101, 97, 115, 101]) = false := eq_at h rfl
  have f9 : (s.toList == [115, 112]) = false := eq_at h rfl
  have f10 : (s.toList == [97]) = false := eq_at h rfl
  have f11 : (s.toList == [98]) = false := eq_at h rfl
  have f12 : (s.toList == [109]) = false := eq_at h rfl
  clear h
  go_enter Tryd.func67, Tryd.ntmps67
  go_wp2_with (go_at_call 21; refine (refDigit_c _ _).mono ?_; rintro e w' ⟨rfl, rfl⟩)
  exact bodyPost_ret (v := .agg #[.int .i64 4, .string ⟨#[]⟩]) (by simp [results, Tryd.results67, go_sem]) rfl ⟨rfl, ((Below.refl _ _).alloc (Nat.le_refl _) _).alloc (by simp) _⟩

set_option maxRecDepth 100000 in
set_option maxHeartbeats 1000000 in
theorem refword_3_true (s : ByteArray) (d : Bool) (w : World) (h0 : 0 < s.size) (hc : digitI s[0].toNat = false) (h : bs s = [114, 99]) :
    Calls Tryd.prog 67 #[.agg #[.string s, .bool d, .bool true]] w fun e w' => e = .returned (.agg #[.int .i64 4, .string ⟨#[]⟩]) ∧ Below w.heap.size w w' := by
  have hne : ¬ s.toList = [] := toList_ne_of s (by omega)
  have hne2 : s.toList.isEmpty = false := by simpa using hne
  have f0 : (s.toList == [97, 108, 112, 104, 97]) = false := eq_at h rfl
  have f1 : (s.toList == [98, 101, 116, 97]) = false := eq_at h rfl
  have f2 : (s.toList == [109, 105, 108, 101, 115, 116, 111, 110, 101]) = false := eq_at h rfl
  have f3 : (s.toList == [114, 99]) = true := eq_at h rfl
  have f4 : (s.toList == [99, 114]) = false := eq_at h rfl
  have f5 : (s.toList == [115, 110, 97, 112, 115, 104, 111, 116]) = false := eq_at h rfl
  have f6 : (s.toList == [103, 97]) = false := eq_at h rfl
  have f7 : (s.toList == [102, 105, 110, 97, 108]) = false := eq_at h rfl
  have f8 : (s.toList == [114, 101, 108, 101, 97, 115, 101]) = false := eq_at h rfl
  have f9 : (s.toList == [115, 112]) = false := eq_at h rfl
  have f10 : (s.toList == [97]) = false := eq_at h rfl
  have f11 : (s.toList == [98]) = false := eq_at h rfl
  have f12 : (s.toList == [109]) = false := eq_at h rfl
  clear h
  go_enter Tryd.func67, Tryd.ntmps67
  go_wp2_with (go_at_call 21; refine (refDigit_c _ _).mono ?_; rintro e w' ⟨rfl, rfl⟩)
  exact bodyPost_ret (v := .agg #[.int .i64 4, .string ⟨#[]⟩]) (by simp [results, Tryd.results67, go_sem]) rfl ⟨rfl, ((Below.refl _ _).alloc (Nat.le_refl _) _).alloc (by simp) _⟩

set_option maxRecDepth 100000 in
set_option maxHeartbeats 1000000 in
theorem refword_4_false (s : ByteArray) (d : Bool) (w : World) (h0 : 0 < s.size) (hc : digitI s[0].toNat = false) (h : bs s = [99, 114]) :
    Calls Tryd.prog 67 #[.agg #[.string s, .bool d, .bool false]] w fun e w' => e = .returned (.agg #[.int .i64 4, .string ⟨#[]⟩]) ∧ Below w.heap.size w w' := by
  have hne : ¬ s.toList = [] := toList_ne_of s (by omega)
  have hne2 : s.toList.isEmpty = false := by simpa using hne
  have f0 : (s.toList == [97, 108, 112, 104, 97]) = false := eq_at h rfl
  have f1 : (s.toList == [98, 101, 116, 97]) = false := eq_at h rfl
  have f2 : (s.toList == [109, 105, 108, 101, 115, 116, 111, 110, 101]) = false := eq_at h rfl
  have f3 : (s.toList == [114, 99]) = false := eq_at h rfl
  have f4 : (s.toList == [99, 114]) = true := eq_at h rfl
  have f5 : (s.toList == [115, 110, 97, 112, 115, 104, 111, 116]) = false := eq_at h rfl
  have f6 : (s.toList == [103, 97]) = false := eq_at h rfl
  have f7 : (s.toList == [102, 105, 110, 97, 108]) = false := eq_at h rfl
  have f8 : (s.toList == [114, 101, 108, 101, 97, 115, 101]) = false := eq_at h rfl
  have f9 : (s.toList == [115, 112]) = false := eq_at h rfl
  have f10 : (s.toList == [97]) = false := eq_at h rfl
  have f11 : (s.toList == [98]) = false := eq_at h rfl
  have f12 : (s.toList == [109]) = false := eq_at h rfl
  clear h
  go_enter Tryd.func67, Tryd.ntmps67
  go_wp2_with (go_at_call 21; refine (refDigit_c _ _).mono ?_; rintro e w' ⟨rfl, rfl⟩)
  exact bodyPost_ret (v := .agg #[.int .i64 4, .string ⟨#[]⟩]) (by simp [results, Tryd.results67, go_sem]) rfl ⟨rfl, ((Below.refl _ _).alloc (Nat.le_refl _) _).alloc (by simp) _⟩

set_option maxRecDepth 100000 in
set_option maxHeartbeats 1000000 in
theorem refword_4_true (s : ByteArray) (d : Bool) (w : World) (h0 : 0 < s.size) (hc : digitI s[0].toNat = false) (h : bs s = [99, 114]) :
    Calls Tryd.prog 67 #[.agg #[.string s, .bool d, .bool true]] w fun e w' => e = .returned (.agg #[.int .i64 4, .string ⟨#[]⟩]) ∧ Below w.heap.size w w' := by
  have hne : ¬ s.toList = [] := toList_ne_of s (by omega)
  have hne2 : s.toList.isEmpty = false := by simpa using hne
  have f0 : (s.toList == [97, 108, 112, 104, 97]) = false := eq_at h rfl
  have f1 : (s.toList == [98, 101, 116, 97]) = false := eq_at h rfl
  have f2 : (s.toList == [109, 105, 108, 101, 115, 116, 111, 110, 101]) = false := eq_at h rfl
  have f3 : (s.toList == [114, 99]) = false := eq_at h rfl
  have f4 : (s.toList == [99, 114]) = true := eq_at h rfl
  have f5 : (s.toList == [115, 110, 97, 112, 115, 104, 111, 116]) = false := eq_at h rfl
  have f6 : (s.toList == [103, 97]) = false := eq_at h rfl
  have f7 : (s.toList == [102, 105, 110, 97, 108]) = false := eq_at h rfl
  have f8 : (s.toList == [114, 101, 108, 101, 97, 115, 101]) = false := eq_at h rfl
  have f9 : (s.toList == [115, 112]) = false := eq_at h rfl
  have f10 : (s.toList == [97]) = false := eq_at h rfl
  have f11 : (s.toList == [98]) = false := eq_at h rfl
  have f12 : (s.toList == [109]) = false := eq_at h rfl
  clear h
  go_enter Tryd.func67, Tryd.ntmps67
  go_wp2_with (go_at_call 21; refine (refDigit_c _ _).mono ?_; rintro e w' ⟨rfl, rfl⟩)
  exact bodyPost_ret (v := .agg #[.int .i64 4, .string ⟨#[]⟩]) (by simp [results, Tryd.results67, go_sem]) rfl ⟨rfl, ((Below.refl _ _).alloc (Nat.le_refl _) _).alloc (by simp) _⟩

set_option maxRecDepth 100000 in
set_option maxHeartbeats 1000000 in
theorem refword_5_false (s : ByteArray) (d : Bool) (w : World) (h0 : 0 < s.size) (hc : digitI s[0].toNat = false) (h : bs s = [115, 110, 97, 112, 115, 104, 111, 116]) :
    Calls Tryd.prog 67 #[.agg #[.string s, .bool d, .bool false]] w fun e w' => e = .returned (.agg #[.int .i64 5, .string ⟨#[]⟩]) ∧ Below w.heap.size w w' := by
  have hne : ¬ s.toList = [] := toList_ne_of s (by omega)
  have hne2 : s.toList.isEmpty = false := by simpa using hne
  have f0 : (s.toList == [97, 108, 112, 104, 97]) = false := eq_at h rfl
  have f1 : (s.toList == [98, 101, 116, 97]) = false := eq_at h rfl
  have f2 : (s.toList == [109, 105, 108, 101, 115, 116, 111, 110, 101]) = false := eq_at h rfl
  have f3 : (s.toList == [114, 99]) = false := eq_at h rfl
  have f4 : (s.toList == [99, 114]) = false := eq_at h rfl
  have f5 : (s.toList == [115, 110, 97, 112, 115, 104, 111, 116]) = true := eq_at h rfl
  have f6 : (s.toList == [103, 97]) = false := eq_at h rfl
  have f7 : (s.toList == [102, 105, 110, 97, 108]) = false := eq_at h rfl
  have f8 : (s.toList == [114, 101, 108, 101, 97, 115, 101]) = false := eq_at h rfl
  have f9 : (s.toList == [115, 112]) = false := eq_at h rfl
  have f10 : (s.toList == [97]) = false := eq_at h rfl
  have f11 : (s.toList == [98]) = false := eq_at h rfl
  have f12 : (s.toList == [109]) = false := eq_at h rfl
  clear h
  go_enter Tryd.func67, Tryd.ntmps67
  go_wp2_with (go_at_call 21; refine (refDigit_c _ _).mono ?_; rintro e w' ⟨rfl, rfl⟩)
  exact bodyPost_ret (v := .agg #[.int .i64 5, .string ⟨#[]⟩]) (by simp [results, Tryd.results67, go_sem]) rfl ⟨rfl, ((Below.refl _ _).alloc (Nat.le_refl _) _).alloc (by simp) _⟩

set_option maxRecDepth 100000 in
set_option maxHeartbeats 1000000 in
theorem refword_5_true (s : ByteArray) (d : Bool) (w : World) (h0 : 0 < s.size) (hc : digitI s[0].toNat = false) (h : bs s = [115, 110, 97, 112, 115, 104, 111, 116]) :
    Calls Tryd.prog 67 #[.agg #[.string s, .bool d, .bool true]] w fun e w' => e = .returned (.agg #[.int .i64 5, .string ⟨#[]⟩]) ∧ Below w.heap.size w w' := by
  have hne : ¬ s.toList = [] := toList_ne_of s (by omega)
  have hne2 : s.toList.isEmpty = false := by simpa using hne
  have f0 : (s.toList == [97, 108, 112, 104, 97]) = false := eq_at h rfl
  have f1 : (s.toList == [98, 101, 116, 97]) = false := eq_at h rfl
  have f2 : (s.toList == [109, 105, 108, 101, 115, 116, 111, 110, 101]) = false := eq_at h rfl
  have f3 : (s.toList == [114, 99]) = false := eq_at h rfl
  have f4 : (s.toList == [99, 114]) = false := eq_at h rfl
  have f5 : (s.toList == [115, 110, 97, 112, 115, 104, 111, 116]) = true := eq_at h rfl
  have f6 : (s.toList == [103, 97]) = false := eq_at h rfl
  have f7 : (s.toList == [102, 105, 110, 97, 108]) = false := eq_at h rfl
  have f8 : (s.toList == [114, 101, 108, 101, 97, 115, 101]) = false := eq_at h rfl
  have f9 : (s.toList == [115, 112]) = false := eq_at h rfl
  have f10 : (s.toList == [97]) = false := eq_at h rfl
  have f11 : (s.toList == [98]) = false := eq_at h rfl
  have f12 : (s.toList == [109]) = false := eq_at h rfl
  clear h
  go_enter Tryd.func67, Tryd.ntmps67
  go_wp2_with (go_at_call 21; refine (refDigit_c _ _).mono ?_; rintro e w' ⟨rfl, rfl⟩)
  exact bodyPost_ret (v := .agg #[.int .i64 5, .string ⟨#[]⟩]) (by simp [results, Tryd.results67, go_sem]) rfl ⟨rfl, ((Below.refl _ _).alloc (Nat.le_refl _) _).alloc (by simp) _⟩

set_option maxRecDepth 100000 in
set_option maxHeartbeats 1000000 in
theorem refword_6_false (s : ByteArray) (d : Bool) (w : World) (h0 : 0 < s.size) (hc : digitI s[0].toNat = false) (h : bs s = [103, 97]) :
    Calls Tryd.prog 67 #[.agg #[.string s, .bool d, .bool false]] w fun e w' => e = .returned (.agg #[.int .i64 6, .string ⟨#[]⟩]) ∧ Below w.heap.size w w' := by
  have hne : ¬ s.toList = [] := toList_ne_of s (by omega)
  have hne2 : s.toList.isEmpty = false := by simpa using hne
  have f0 : (s.toList == [97, 108, 112, 104, 97]) = false := eq_at h rfl
  have f1 : (s.toList == [98, 101, 116, 97]) = false := eq_at h rfl
  have f2 : (s.toList == [109, 105, 108, 101, 115, 116, 111, 110, 101]) = false := eq_at h rfl
  have f3 : (s.toList == [114, 99]) = false := eq_at h rfl
  have f4 : (s.toList == [99, 114]) = false := eq_at h rfl
  have f5 : (s.toList == [115, 110, 97, 112, 115, 104, 111, 116]) = false := eq_at h rfl
  have f6 : (s.toList == [103, 97]) = true := eq_at h rfl
  have f7 : (s.toList == [102, 105, 110, 97, 108]) = false := eq_at h rfl
  have f8 : (s.toList == [114, 101, 108, 101, 97, 115, 101]) = false := eq_at h rfl
  have f9 : (s.toList == [115, 112]) = false := eq_at h rfl
  have f10 : (s.toList == [97]) = false := eq_at h rfl
  have f11 : (s.toList == [98]) = false := eq_at h rfl
  have f12 : (s.toList == [109]) = false := eq_at h rfl
  clear h
  go_enter Tryd.func67, Tryd.ntmps67
  go_wp2_with (go_at_call 21; refine (refDigit_c _ _).mono ?_; rintro e w' ⟨rfl, rfl⟩)
  exact bodyPost_ret (v := .agg #[.int .i64 6, .string ⟨#[]⟩]) (by simp [results, Tryd.results67, go_sem]) rfl ⟨rfl, ((Below.refl _ _).alloc (Nat.le_refl _) _).alloc (by simp) _⟩

set_option maxRecDepth 100000 in
set_option maxHeartbeats 1000000 in
theorem refword_6_true (s : ByteArray) (d : Bool) (w : World) (h0 : 0 < s.size) (hc : digitI s[0].toNat = false) (h : bs s = [103, 97]) :
    Calls Tryd.prog 67 #[.agg #[.string s, .bool d, .bool true]] w fun e w' => e = .returned (.agg #[.int .i64 6, .string ⟨#[]⟩]) ∧ Below w.heap.size w w' := by
  have hne : ¬ s.toList = [] := toList_ne_of s (by omega)
  have hne2 : s.toList.isEmpty = false := by simpa using hne
  have f0 : (s.toList == [97, 108, 112, 104, 97]) = false := eq_at h rfl
  have f1 : (s.toList == [98, 101, 116, 97]) = false := eq_at h rfl
  have f2 : (s.toList == [109, 105, 108, 101, 115, 116, 111, 110, 101]) = false := eq_at h rfl
  have f3 : (s.toList == [114, 99]) = false := eq_at h rfl
  have f4 : (s.toList == [99, 114]) = false := eq_at h rfl
  have f5 : (s.toList == [115, 110, 97, 112, 115, 104, 111, 116]) = false := eq_at h rfl
  have f6 : (s.toList == [103, 97]) = true := eq_at h rfl
  have f7 : (s.toList == [102, 105, 110, 97, 108]) = false := eq_at h rfl
  have f8 : (s.toList == [114, 101, 108, 101, 97, 115, 101]) = false := eq_at h rfl
  have f9 : (s.toList == [115, 112]) = false := eq_at h rfl
  have f10 : (s.toList == [97]) = false := eq_at h rfl
  have f11 : (s.toList == [98]) = false := eq_at h rfl
  have f12 : (s.toList == [109]) = false := eq_at h rfl
  clear h
  go_enter Tryd.func67, Tryd.ntmps67
  go_wp2_with (go_at_call 21; refine (refDigit_c _ _).mono ?_; rintro e w' ⟨rfl, rfl⟩)
  exact bodyPost_ret (v := .agg #[.int .i64 6, .string ⟨#[]⟩]) (by simp [results, Tryd.results67, go_sem]) rfl ⟨rfl, ((Below.refl _ _).alloc (Nat.le_refl _) _).alloc (by simp) _⟩

set_option maxRecDepth 100000 in
set_option maxHeartbeats 1000000 in
theorem refword_7_false (s : ByteArray) (d : Bool) (w : World) (h0 : 0 < s.size) (hc : digitI s[0].toNat = false) (h : bs s = [102, 105, 110, 97, 108]) :
    Calls Tryd.prog 67 #[.agg #[.string s, .bool d, .bool false]] w fun e w' => e = .returned (.agg #[.int .i64 6, .string ⟨#[]⟩]) ∧ Below w.heap.size w w' := by
  have hne : ¬ s.toList = [] := toList_ne_of s (by omega)
  have hne2 : s.toList.isEmpty = false := by simpa using hne
  have f0 : (s.toList == [97, 108, 112, 104, 97]) = false := eq_at h rfl
  have f1 : (s.toList == [98, 101, 116, 97]) = false := eq_at h rfl
  have f2 : (s.toList == [109, 105, 108, 101, 115, 116, 111, 110, 101]) = false := eq_at h rfl
  have f3 : (s.toList == [114, 99]) = false := eq_at h rfl
  have f4 : (s.toList == [99, 114]) = false := eq_at h rfl
  have f5 : (s.toList == [115, 110, 97, 112, 115, 104, 111, 116]) = false := eq_at h rfl
  have f6 : (s.toList == [103, 97]) = false := eq_at h rfl
  have f7 : (s.toList == [102, 105, 110, 97, 108]) = true := eq_at h rfl
  have f8 : (s.toList == [114, 101, 108, 101, 97, 115, 101]) = false := eq_at h rfl
  have f9 : (s.toList == [115, 112]) = false := eq_at h rfl
  have f10 : (s.toList == [97]) = false := eq_at h rfl
  have f11 : (s.toList == [98]) = false := eq_at h rfl
  have f12 : (s.toList == [109]) = false := eq_at h rfl
  clear h
  go_enter Tryd.func67, Tryd.ntmps67
  go_wp2_with (go_at_call 21; refine (refDigit_c _ _).mono ?_; rintro e w' ⟨rfl, rfl⟩)
  exact bodyPost_ret (v := .agg #[.int .i64 6, .string ⟨#[]⟩]) (by simp [results, Tryd.results67, go_sem]) rfl ⟨rfl, ((Below.refl _ _).alloc (Nat.le_refl _) _).alloc (by simp) _⟩

set_option maxRecDepth 100000 in
set_option maxHeartbeats 1000000 in
theorem refword_7_true (s : ByteArray) (d : Bool) (w : World) (h0 : 0 < s.size) (hc : digitI s[0].toNat = false) (h : bs s = [102, 105, 110, 97, 108]) :
    Calls Tryd.prog 67 #[.agg #[.string s, .bool d, .bool true]] w fun e w' => e = .returned (.agg #[.int .i64 6, .string ⟨#[]⟩]) ∧ Below w.heap.size w w' := by
  have hne : ¬ s.toList = [] := toList_ne_of s (by omega)
  have hne2 : s.toList.isEmpty = false := by simpa using hne
  have f0 : (s.toList == [97, 108, 112, 104, 97]) = false := eq_at h rfl
  have f1 : (s.toList == [98, 101, 116, 97]) = false := eq_at h rfl
  have f2 : (s.toList == [109, 105, 108, 101, 115, 116, 111, 110, 101]) = false := eq_at h rfl
  have f3 : (s.toList == [114, 99]) = false := eq_at h rfl
  have f4 : (s.toList == [99, 114]) = false := eq_at h rfl
  have f5 : (s.toList == [115, 110, 97, 112, 115, 104, 111, 116]) = false := eq_at h rfl
  have f6 : (s.toList == [103, 97]) = false := eq_at h rfl
  have f7 : (s.toList == [102, 105, 110, 97, 108]) = true := eq_at h rfl
  have f8 : (s.toList == [114, 101, 108, 101, 97, 115, 101]) = false := eq_at h rfl
  have f9 : (s.toList == [115, 112]) = false := eq_at h rfl
  have f10 : (s.toList == [97]) = false := eq_at h rfl
  have f11 : (s.toList == [98]) = false := eq_at h rfl
  have f12 : (s.toList == [109]) = false := eq_at h rfl
  clear h
  go_enter Tryd.func67, Tryd.ntmps67
  go_wp2_with (go_at_call 21; refine (refDigit_c _ _).mono ?_; rintro e w' ⟨rfl, rfl⟩)
  exact bodyPost_ret (v := .agg #[.int .i64 6, .string ⟨#[]⟩]) (by simp [results, Tryd.results67, go_sem]) rfl ⟨rfl, ((Below.refl _ _).alloc (Nat.le_refl _) _).alloc (by simp) _⟩

set_option maxRecDepth 100000 in
set_option maxHeartbeats 1000000 in
theorem refword_8_false (s : ByteArray) (d : Bool) (w : World) (h0 : 0 < s.size) (hc : digitI s[0].toNat = false) (h : bs s = [114, 101, 108, 101, 97, 115, 101]) :
    Calls Tryd.prog 67 #[.agg #[.string s, .bool d, .bool false]] w fun e w' => e = .returned (.agg #[.int .i64 6, .string ⟨#[]⟩]) ∧ Below w.heap.size w w' := by
  have hne : ¬ s.toList = [] := toList_ne_of s (by omega)
  have hne2 : s.toList.isEmpty = false := by simpa using hne
  have f0 : (s.toList == [97, 108, 112, 104, 97]) = false := eq_at h rfl
  have f1 : (s.toList == [98, 101, 116, 97]) = false := eq_at h rfl
  have f2 : (s.toList == [109, 105, 108, 101, 115, 116, 111, 110, 101]) = false := eq_at h rfl
  have f3 : (s.toList == [114, 99]) = false := eq_at h rfl
  have f4 : (s.toList == [99, 114]) = false := eq_at h rfl
  have f5 : (s.toList == [115, 110, 97, 112, 115, 104, 111, 116]) = false := eq_at h rfl
  have f6 : (s.toList == [103, 97]) = false := eq_at h rfl
  have f7 : (s.toList == [102, 105, 110, 97, 108]) = false := eq_at h rfl
  have f8 : (s.toList == [114, 101, 108, 101, 97, 115, 101]) = true := eq_at h rfl
  have f9 : (s.toList == [115, 112]) = false := eq_at h rfl
  have f10 : (s.toList == [97]) = false := eq_at h rfl
  have f11 : (s.toList == [98]) = false := eq_at h rfl
  have f12 : (s.toList == [109]) = false := eq_at h rfl
  clear h
  go_enter Tryd.func67, Tryd.ntmps67
  go_wp2_with (go_at_call 21; refine (refDigit_c _ _).mono ?_; rintro e w' ⟨rfl, rfl⟩)
  exact bodyPost_ret (v := .agg #[.int .i64 6, .string ⟨#[]⟩]) (by simp [results, Tryd.results67, go_sem]) rfl ⟨rfl, ((Below.refl _ _).alloc (Nat.le_refl _) _).alloc (by simp) _⟩

set_option maxRecDepth 100000 in
set_option maxHeartbeats 1000000 in
theorem refword_8_true (s : ByteArray) (d : Bool) (w : World) (h0 : 0 < s.size) (hc : digitI s[0].toNat = false) (h : bs s = [114, 101, 108, 101, 97, 115, 101]) :
    Calls Tryd.prog 67 #[.agg #[.string s, .bool d, .bool true]] w fun e w' => e = .returned (.agg #[.int .i64 6, .string ⟨#[]⟩]) ∧ Below w.heap.size w w' := by
  have hne : ¬ s.toList = [] := toList_ne_of s (by omega)
  have hne2 : s.toList.isEmpty = false := by simpa using hne
  have f0 : (s.toList == [97, 108, 112, 104, 97]) = false := eq_at h rfl
  have f1 : (s.toList == [98, 101, 116, 97]) = false := eq_at h rfl
  have f2 : (s.toList == [109, 105, 108, 101, 115, 116, 111, 110, 101]) = false := eq_at h rfl
  have f3 : (s.toList == [114, 99]) = false := eq_at h rfl
  have f4 : (s.toList == [99, 114]) = false := eq_at h rfl
  have f5 : (s.toList == [115, 110, 97, 112, 115, 104, 111, 116]) = false := eq_at h rfl
  have f6 : (s.toList == [103, 97]) = false := eq_at h rfl
  have f7 : (s.toList == [102, 105, 110, 97, 108]) = false := eq_at h rfl
  have f8 : (s.toList == [114, 101, 108, 101, 97, 115, 101]) = true := eq_at h rfl
  have f9 : (s.toList == [115, 112]) = false := eq_at h rfl
  have f10 : (s.toList == [97]) = false := eq_at h rfl
  have f11 : (s.toList == [98]) = false := eq_at h rfl
  have f12 : (s.toList == [109]) = false := eq_at h rfl
  clear h
  go_enter Tryd.func67, Tryd.ntmps67
  go_wp2_with (go_at_call 21; refine (refDigit_c _ _).mono ?_; rintro e w' ⟨rfl, rfl⟩)
  exact bodyPost_ret (v := .agg #[.int .i64 6, .string ⟨#[]⟩]) (by simp [results, Tryd.results67, go_sem]) rfl ⟨rfl, ((Below.refl _ _).alloc (Nat.le_refl _) _).alloc (by simp) _⟩

set_option maxRecDepth 100000 in
set_option maxHeartbeats 1000000 in
theorem refword_9_false (s : ByteArray) (d : Bool) (w : World) (h0 : 0 < s.size) (hc : digitI s[0].toNat = false) (h : bs s = [115, 112]) :
    Calls Tryd.prog 67 #[.agg #[.string s, .bool d, .bool false]] w fun e w' => e = .returned (.agg #[.int .i64 7, .string ⟨#[]⟩]) ∧ Below w.heap.size w w' := by
  have hne : ¬ s.toList = [] := toList_ne_of s (by omega)
  have hne2 : s.toList.isEmpty = false := by simpa using hne
  have f0 : (s.toList == [97, 108, 112, 104, 97]) = false := eq_at h rfl
  have f1 : (s.toList == [98, 101, 116, 97]) = false := eq_at h rfl
  have f2 : (s.toList == [109, 105, 108, 101, 115, 116, 111, 110, 101]) = false := eq_at h rfl
  have f3 : (s.toList == [114, 99]) = false := eq_at h rfl
  have f4 : (s.toList == [99, 114]) = false := eq_at h rfl
  have f5 : (s.toList == [115, 110, 97, 112, 115, 104, 111, 116]) = false := eq_at h rfl
  have f6 : (s.toList == [103, 97]) = false := eq_at h rfl
  have f7 : (s.toList == [102, 105, 110, 97, 108]) = false := eq_at h rfl
  have f8 : (s.toList == [114, 101, 108, 101, 97, 115, 101]) = false := eq_at h rfl
  have f9 : (s.toList == [115, 112]) = true := eq_at h rfl
  have f10 : (s.toList == [97]) = false := eq_at h rfl
  have f11 : (s.toList == [98]) = false := eq_at h rfl
  have f12 : (s.toList == [109]) = false := eq_at h rfl
  clear h
  go_enter Tryd.func67, Tryd.ntmps67
  go_wp2_with (go_at_call 21; refine (refDigit_c _ _).mono ?_; rintro e w' ⟨rfl, rfl⟩)
  exact bodyPost_ret (v := .agg #[.int .i64 7, .string ⟨#[]⟩]) (by simp [results, Tryd.results67, go_sem]) rfl ⟨rfl, ((Below.refl _ _).alloc (Nat.le_refl _) _).alloc (by simp) _⟩

set_option maxRecDepth 100000 in
set_option maxHeartbeats 1000000 in
theorem refword_9_true (s : ByteArray) (d : Bool) (w : World) (h0 : 0 < s.size) (hc : digitI s[0].toNat = false) (h : bs s = [115, 112]) :
    Calls Tryd.prog 67 #[.agg #[.string s, .bool d, .bool true]] w fun e w' => e = .returned (.agg #[.int .i64 7, .string ⟨#[]⟩]) ∧ Below w.heap.size w w' := by
  have hne : ¬ s.toList = [] := toList_ne_of s (by omega)
  have hne2 : s.toList.isEmpty = false := by simpa using hne
  have f0 : (s.toList == [97, 108, 112, 104, 97]) = false := eq_at h rfl
  have f1 : (s.toList == [98, 101, 116, 97]) = false := eq_at h rfl
  have f2 : (s.toList == [109, 105, 108, 101, 115, 116, 111, 110, 101]) = false := eq_at h rfl
  have f3 : (s.toList == [114, 99]) = false := eq_at h rfl
  have f4 : (s.toList == [99, 114]) = false := eq_at h rfl
  have f5 : (s.toList == [115, 110, 97, 112, 115, 104, 111, 116]) = false := eq_at h rfl
  have f6 : (s.toList == [103, 97]) = false := eq_at h rfl
  have f7 : (s.toList == [102, 105, 110, 97, 108]) = false := eq_at h rfl
  have f8 : (s.toList == [114, 101, 108, 101, 97, 115, 101]) = false := eq_at h rfl
  have f9 : (s.toList == [115, 112]) = true := eq_at h rfl
  have f10 : (s.toList == [97]) = false := eq_at h rfl
  have f11 : (s.toList == [98]) = false := eq_at h rfl
  have f12 : (s.toList == [109]) = false := eq_at h rfl
  clear h
  go_enter Tryd.func67, Tryd.ntmps67
  go_wp2_with (go_at_call 21; refine (refDigit_c _ _).mono ?_; rintro e w' ⟨rfl, rfl⟩)
  exact bodyPost_ret (v := .agg #[.int .i64 7, .string ⟨#[]⟩]) (by simp [results, Tryd.results67, go_sem]) rfl ⟨rfl, ((Below.refl _ _).alloc (Nat.le_refl _) _).alloc (by simp) _⟩

set_option maxRecDepth 100000 in
set_option maxHeartbeats 1000000 in
theorem refword_10_true (s : ByteArray) (d : Bool) (w : World) (h0 : 0 < s.size) (hc : digitI s[0].toNat = false) (h : bs s = [97]) :
    Calls Tryd.prog 67 #[.agg #[.string s, .bool d, .bool true]] w fun e w' => e = .returned (.agg #[.int .i64 1, .string ⟨#[]⟩]) ∧ Below w.heap.size w w' := by
  have hne : ¬ s.toList = [] := toList_ne_of s (by omega)
  have hne2 : s.toList.isEmpty = false := by simpa using hne
  have f0 : (s.toList == [97, 108, 112, 104, 97]) = false := eq_at h rfl
  have f1 : (s.toList == [98, 101, 116, 97]) = false := eq_at h rfl
  have f2 : (s.toList == [109, 105, 108, 101, 115, 116, 111, 110, 101]) = false := eq_at h rfl
  have f3 : (s.toList == [114, 99]) = false := eq_at h rfl
  have f4 : (s.toList == [99, 114]) = false := eq_at h rfl
  have f5 : (s.toList == [115, 110, 97, 112, 115, 104, 111, 116]) = false := eq_at h rfl
  have f6 : (s.toList == [103, 97]) = false := eq_at h rfl
  have f7 : (s.toList == [102, 105, 110, 97, 108]) = false := eq_at h rfl
  have f8 : (s.toList == [114, 101, 108, 101, 97, 115, 101]) = false := eq_at h rfl
  have f9 : (s.toList == [115, 112]) = false := eq_at h rfl
  have f10 : (s.toList == [97]) = true := eq_at h rfl
  have f11 : (s.toList == [98]) = false := eq_at h rfl
  have f12 : (s.toList == [109]) = false := eq_at h rfl
  clear h
  go_enter Tryd.func67, Tryd.ntmps67
  go_wp2_with (go_at_call 21; refine (refDigit_c _ _).mono ?_; rintro e w' ⟨rfl, rfl⟩)
  exact bodyPost_ret (v := .agg #[.int .i64 1, .string ⟨#[]⟩]) (by simp [results, Tryd.results67, go_sem]) rfl ⟨rfl, ((Below.refl _ _).alloc (Nat.le_refl _) _).alloc (by simp) _⟩

set_option maxRecDepth 100000 in
set_option maxHeartbeats 1000000 in
theorem refword_11_true (s : ByteArray) (d : Bool) (w : World) (h0 : 0 < s.size) (hc : digitI s[0].toNat = false) (h : bs s = [98]) :
    Calls Tryd.prog 67 #[.agg #[.string s, .bool d, .bool true]] w fun e w' => e = .returned (.agg #[.int .i64 2, .string ⟨#[]⟩]) ∧ Below w.heap.size w w' := by
  have hne : ¬ s.toList = [] := toList_ne_of s (by omega)
  have hne2 : s.toList.isEmpty = false := by simpa using hne
  have f0 : (s.toList == [97, 108, 112, 104, 97]) = false := eq_at h rfl
  have f1 : (s.toList == [98, 101, 116, 97]) = false := eq_at h rfl
  have f2 : (s.toList == [109, 105, 108, 101, 115, 116, 111, 110, 101]) = false := eq_at h rfl
  have f3 : (s.toList == [114, 99]) = false := eq_at h rfl
  have f4 : (s.toList == [99, 114]) = false := eq_at h rfl
  have f5 : (s.toList == [115, 110, 97, 112, 115, 104, 111, 116]) = false := eq_at h rfl
  have f6 : (s.toList == [103, 97]) = false := eq_at h rfl
  have f7 : (s.toList == [102, 105, 110, 97, 108]) = false := eq_at h rfl
  have f8 : (s.toList == [114, 101, 108, 101, 97, 115, 101]) = false := eq_at h rfl
  have f9 : (s.toList == [115, 112]) = false := eq_at h rfl
  have f10 : (s.toList == [97]) = false := eq_at h rfl
  have f11 : (s.toList == [98]) = true := eq_at h rfl
  have f12 : (s.toList == [109]) = false := eq_at h rfl
  clear h
  go_enter Tryd.func67, Tryd.ntmps67
  go_wp2_with (go_at_call 21; refine (refDigit_c _ _).mono ?_; rintro e w' ⟨rfl, rfl⟩)
  exact bodyPost_ret (v := .agg #[.int .i64 2, .string ⟨#[]⟩]) (by simp [results, Tryd.results67, go_sem]) rfl ⟨rfl, ((Below.refl _ _).alloc (Nat.le_refl _) _).alloc (by simp) _⟩

set_option maxRecDepth 100000 in
set_option maxHeartbeats 1000000 in
theorem refword_12_true (s : ByteArray) (d : Bool) (w : World) (h0 : 0 < s.size) (hc : digitI s[0].toNat = false) (h : bs s = [109]) :
    Calls Tryd.prog 67 #[.agg #[.string s, .bool d, .bool true]] w fun e w' => e = .returned (.agg #[.int .i64 3, .string ⟨#[]⟩]) ∧ Below w.heap.size w w' := by
  have hne : ¬ s.toList = [] := toList_ne_of s (by omega)
  have hne2 : s.toList.isEmpty = false := by simpa using hne
  have f0 : (s.toList == [97, 108, 112, 104, 97]) = false := eq_at h rfl
  have f1 : (s.toList == [98, 101, 116, 97]) = false := eq_at h rfl
  have f2 : (s.toList == [109, 105, 108, 101, 115, 116, 111, 110, 101]) = false := eq_at h rfl
  have f3 : (s.toList == [114, 99]) = false := eq_at h rfl
  have f4 : (s.toList == [99, 114]) = false := eq_at h rfl
  have f5 : (s.toList == [115, 110, 97, 112, 115, 104, 111, 116]) = false := eq_at h rfl
  have f6 : (s.toList == [103, 97]) = false := eq_at h rfl
  have f7 : (s.toList == [102, 105, 110, 97, 108]) = false := eq_at h rfl
  have f8 : (s.toList == [114, 101, 108, 101, 97, 115, 101]) = false := eq_at h rfl
  have f9 : (s.toList == [115, 112]) = false := eq_at h rfl
  have f10 : (s.toList == [97]) = false := eq_at h rfl
  have f11 : (s.toList == [98]) = false := eq_at h rfl
  have f12 : (s.toList == [109]) = true := eq_at h rfl
  clear h
  go_enter Tryd.func67, Tryd.ntmps67
  go_wp2_with (go_at_call 21; refine (refDigit_c _ _).mono ?_; rintro e w' ⟨rfl, rfl⟩)
  exact bodyPost_ret (v := .agg #[.int .i64 3, .string ⟨#[]⟩]) (by simp [results, Tryd.results67, go_sem]) rfl ⟨rfl, ((Below.refl _ _).alloc (Nat.le_refl _) _).alloc (by simp) _⟩

set_option maxRecDepth 100000 in
set_option maxHeartbeats 1000000 in
theorem refword_oth_false (s : ByteArray) (d : Bool) (w : World) (h0 : 0 < s.size) (hc : digitI s[0].toNat = false) (hK : kindW (bs s) false = 8) :
    Calls Tryd.prog 67 #[.agg #[.string s, .bool d, .bool false]] w fun e w' => e = .returned (.agg #[.int .i64 8, .string s]) ∧ Below w.heap.size w w' := by
  have hne : ¬ s.toList = [] := toList_ne_of s (by omega)
  have hne2 : s.toList.isEmpty = false := by simpa using hne
  obtain ⟨e0, e1, e2, e3, e4, e5, e6, e7, e8, e9, es⟩ := kind_oth (bs s) false hK
  have f0 : (s.toList == [97, 108, 112, 104, 97]) = false := ne_at e0
  have f1 : (s.toList == [98, 101, 116, 97]) = false := ne_at e1
  have f2 : (s.toList == [109, 105, 108, 101, 115, 116, 111, 110, 101]) = false := ne_at e2
  have f3 : (s.toList == [114, 99]) = false := ne_at e3
  have f4 : (s.toList == [99, 114]) = false := ne_at e4
  have f5 : (s.toList == [115, 110, 97, 112, 115, 104, 111, 116]) = false := ne_at e5
  have f6 : (s.toList == [103, 97]) = false := ne_at e6
  have f7 : (s.toList == [102, 105, 110, 97, 108]) = false := ne_at e7
  have f8 : (s.toList == [114, 101, 108, 101, 97, 115, 101]) = false := ne_at e8
  have f9 : (s.toList == [115, 112]) = false := ne_at e9
  clear hK es e0 e1 e2 e3 e4 e5 e6 e7 e8 e9
  go_enter Tryd.func67, Tryd.ntmps67
  go_wp2_with (go_at_call 21; refine (refDigit_c _ _).mono ?_; rintro e w' ⟨rfl, rfl⟩)
  exact bodyPost_ret (v := .agg #[.int .i64 8, .string s]) (by simp [results, Tryd.results67, go_sem]) rfl ⟨rfl, ((Below.refl _ _).alloc (Nat.le_refl _) _).alloc (by simp) _⟩

set_option maxRecDepth 100000 in
set_option maxHeartbeats 1000000 in
theorem refword_oth_true (s : ByteArray) (d : Bool) (w : World) (h0 : 0 < s.size) (hc : digitI s[0].toNat = false) (hK : kindW (bs s) true = 8) :
    Calls Tryd.prog 67 #[.agg #[.string s, .bool d, .bool true]] w fun e w' => e = .returned (.agg #[.int .i64 8, .string s]) ∧ Below w.heap.size w w' := by
  have hne : ¬ s.toList = [] := toList_ne_of s (by omega)
  have hne2 : s.toList.isEmpty = false := by simpa using hne
  obtain ⟨e0, e1, e2, e3, e4, e5, e6, e7, e8, e9, es⟩ := kind_oth (bs s) true hK
  have f0 : (s.toList == [97, 108, 112, 104, 97]) = false := ne_at e0
  have f1 : (s.toList == [98, 101, 116, 97]) = false := ne_at e1
  have f2 : (s.toList == [109, 105, 108, 101, 115, 116, 111, 110, 101]) = false := ne_at e2
  have f3 : (s.toList == [114, 99]) = false := ne_at e3
  have f4 : (s.toList == [99, 114]) = false := ne_at e4
  have f5 : (s.toList == [115, 110, 97, 112, 115, 104, 111, 116]) = false := ne_at e5
  have f6 : (s.toList == [103, 97]) = false := ne_at e6
  have f7 : (s.toList == [102, 105, 110, 97, 108]) = false := ne_at e7
  have f8 : (s.toList == [114, 101, 108, 101, 97, 115, 101]) = false := ne_at e8
  have f9 : (s.toList == [115, 112]) = false := ne_at e9
  obtain ⟨a1, a2, a3⟩ := es rfl
  have f10 : (s.toList == [97]) = false := ne_at a1
  have f11 : (s.toList == [98]) = false := ne_at a2
  have f12 : (s.toList == [109]) = false := ne_at a3
  clear a1 a2 a3
  clear hK es e0 e1 e2 e3 e4 e5 e6 e7 e8 e9
  go_enter Tryd.func67, Tryd.ntmps67
  go_wp2_with (go_at_call 21; refine (refDigit_c _ _).mono ?_; rintro e w' ⟨rfl, rfl⟩)
  exact bodyPost_ret (v := .agg #[.int .i64 8, .string s]) (by simp [results, Tryd.results67, go_sem]) rfl ⟨rfl, ((Below.refl _ _).alloc (Nat.le_refl _) _).alloc (by simp) _⟩

theorem refword_c (s : ByteArray) (d n : Bool) (w : World) (hs : s.size ≤ maxLen) (r : Wd) (hr : wordW (bs s) d n = r) :
    Calls Tryd.prog 67 #[.agg #[.string s, .bool d, .bool n]] w fun e w' => e = .returned (wdV r) ∧ Below w.heap.size w w' := by
  by_cases h0 : 0 < s.size
  · cases hc : digitI s[0].toNat with
    | true => exact refword_num s d n w hs r ((wordW_num (by rw [digHd_bs s h0, hc, Bool.or_true])).symm.trans hr) (.inr ⟨h0, hc⟩)
    | false =>
      have hh : ((bs s).isEmpty || digHd (bs s)) = false := by rw [digHd_bs s h0, hc, bs_cons s h0]; rfl
      by_cases hk : kindW (bs s) n = 8
      · rw [wordW_oth hh hk] at hr
        subst hr
        cases n with
        | false => exact refword_oth_false s d w h0 hc hk
        | true => exact refword_oth_true s d w h0 hc hk
      · rw [wordW_kind hh hk] at hr
        subst hr
        obtain ⟨K, hK⟩ : ∃ K, kindW (bs s) n = K := ⟨_, rfl⟩
        have hw := kind_ways (bs s) n K hK (by rw [← hK]; exact hk)
        rw [hK]
        rcases hw with ⟨h, rfl⟩ | ⟨h, rfl⟩ | ⟨h, rfl⟩ | ⟨h, rfl⟩ | ⟨h, rfl⟩ | ⟨h, rfl⟩ | ⟨h, rfl⟩ | ⟨h, rfl⟩ | ⟨h, rfl⟩ | ⟨h, rfl⟩ | ⟨rfl, h, rfl⟩ | ⟨rfl, h, rfl⟩ | ⟨rfl, h, rfl⟩
        · cases n with
          | false => exact refword_0_false s d w h0 hc h
          | true => exact refword_0_true s d w h0 hc h
        · cases n with
          | false => exact refword_1_false s d w h0 hc h
          | true => exact refword_1_true s d w h0 hc h
        · cases n with
          | false => exact refword_2_false s d w h0 hc h
          | true => exact refword_2_true s d w h0 hc h
        · cases n with
          | false => exact refword_3_false s d w h0 hc h
          | true => exact refword_3_true s d w h0 hc h
        · cases n with
          | false => exact refword_4_false s d w h0 hc h
          | true => exact refword_4_true s d w h0 hc h
        · cases n with
          | false => exact refword_5_false s d w h0 hc h
          | true => exact refword_5_true s d w h0 hc h
        · cases n with
          | false => exact refword_6_false s d w h0 hc h
          | true => exact refword_6_true s d w h0 hc h
        · cases n with
          | false => exact refword_7_false s d w h0 hc h
          | true => exact refword_7_true s d w h0 hc h
        · cases n with
          | false => exact refword_8_false s d w h0 hc h
          | true => exact refword_8_true s d w h0 hc h
        · cases n with
          | false => exact refword_9_false s d w h0 hc h
          | true => exact refword_9_true s d w h0 hc h
        · exact refword_10_true s d w h0 hc h
        · exact refword_11_true s d w h0 hc h
        · exact refword_12_true s d w h0 hc h
  · have hb : bs s = [] := List.eq_nil_of_length_eq_zero (by rw [bs_length]; omega)
    exact refword_num s d n w hs r ((wordW_num (by rw [hb]; rfl)).symm.trans hr) (.inl (by omega))
end Go.Proofs.YthmlggglemnfgaaDoor
