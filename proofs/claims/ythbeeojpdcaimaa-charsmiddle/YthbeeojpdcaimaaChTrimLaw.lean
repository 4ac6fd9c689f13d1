/-
  What is trimmed begins and ends with no Space; trimmed twice it is trimmed once; Spaces about it play no part: the plain facts, and the walk of CharsTrim.
-/
import Derived.Test.YthbeeojpdcaimaaChKinds
namespace Nwl

theorem dropWhile_head_not (p : UInt8 → Bool) : ∀ (l : List UInt8) (h : 0 < (l.dropWhile p).length), p ((l.dropWhile p)[0]) = false
  | [], h => by simp at h
  | c :: r, h => by
    by_cases hc : p c = true
    · have e : (c :: r).dropWhile p = r.dropWhile p := by rw [List.dropWhile_cons, if_pos hc]
      have h2 : 0 < (r.dropWhile p).length := by rw [← e]; exact h
      have := dropWhile_head_not p r h2
      simp only [e]
      exact this
    · have hc' : p c = false := by simpa using hc
      simp [hc']
theorem dropWhile_all (p : UInt8 → Bool) (l : List UInt8) (h : ∀ c ∈ l, p c = true) : l.dropWhile p = [] := by
  induction l with
  | nil => rfl
  | cons c r ih => rw [List.dropWhile_cons, if_pos (h c (by simp))]; exact ih fun x hx => h x (by simp [hx])
theorem all_of_dropWhile (p : UInt8 → Bool) (l : List UInt8) (h : l.dropWhile p = []) : ∀ c ∈ l, p c = true := by
  induction l with
  | nil => intro c hc; cases hc
  | cons c r ih =>
    by_cases hc : p c = true
    · rw [List.dropWhile_cons, if_pos hc] at h
      intro x hx
      rcases List.mem_cons.1 hx with rfl | hx
      · exact hc
      · exact ih h x hx
    · rw [List.dropWhile_cons, if_neg hc] at h
      cases h
theorem dropWhile_over (p : UInt8 → Bool) (a s : List UInt8) (h : ∀ c ∈ a, p c = true) : (a ++ s).dropWhile p = s.dropWhile p := by
  induction a with
  | nil => rfl
  | cons c r ih => rw [List.cons_append, List.dropWhile_cons, if_pos (h c (by simp))]; exact ih fun x hx => h x (by simp [hx])
theorem dropWhile_in (p : UInt8 → Bool) (s b : List UInt8) (h : s.dropWhile p ≠ []) : (s ++ b).dropWhile p = s.dropWhile p ++ b := by
  induction s with
  | nil => exact absurd rfl h
  | cons c r ih =>
    by_cases hc : p c = true
    · rw [List.dropWhile_cons, if_pos hc] at h ⊢
      rw [List.cons_append, List.dropWhile_cons, if_pos hc]
      exact ih h
    · rw [List.cons_append, List.dropWhile_cons, if_neg hc, List.dropWhile_cons, if_neg hc, List.cons_append]
theorem trimL_left (a s : List UInt8) (h : ∀ c ∈ a, space8 c = true) : trimL (a ++ s) = trimL s := by
  unfold trimL; rw [dropWhile_over _ _ _ h]
theorem trimL_right (s b : List UInt8) (h : ∀ c ∈ b, space8 c = true) : trimL (s ++ b) = trimL s := by
  unfold trimL
  by_cases e : s.dropWhile space8 = []
  · rw [dropWhile_over _ _ _ (all_of_dropWhile _ _ e), dropWhile_all _ b h, e]
  · rw [dropWhile_in _ _ _ e, List.reverse_append, dropWhile_over _ _ _ (fun c hc => h c (by simpa using hc))]
theorem trimL_blank (a : List UInt8) (h : trimL a = []) : ∀ c ∈ a, space8 c = true := by
  unfold trimL at h
  have h1 : (a.dropWhile space8).reverse.dropWhile space8 = [] := by simpa using h
  have h2 := all_of_dropWhile _ _ h1
  apply all_of_dropWhile
  rcases Nat.eq_zero_or_pos (a.dropWhile space8).length with h0 | h0
  · exact List.eq_nil_of_length_eq_zero h0
  · exfalso
    have hn := dropWhile_head_not space8 a h0
    have hy := h2 ((a.dropWhile space8)[0]) (by simp)
    rw [hn] at hy
    cases hy
theorem trimL_last (l : List UInt8) (h : 0 < (trimL l).length) : space8 ((trimL l)[(trimL l).length - 1]'(by omega)) = false := by
  have h2 : 0 < ((l.dropWhile space8).reverse.dropWhile space8).length := by simpa [trimL] using h
  have := dropWhile_head_not space8 _ h2
  simp only [trimL, List.getElem_reverse, List.length_reverse]
  have e : ((l.dropWhile space8).reverse.dropWhile space8).length - 1 - (((l.dropWhile space8).reverse.dropWhile space8).length - 1) = 0 := by omega
  simp only [e]
  exact this
theorem trimL_first (l : List UInt8) (h : 0 < (trimL l).length) : space8 ((trimL l)[0]) = false := by
  have hsuf : ((l.dropWhile space8).reverse.dropWhile space8) <:+ (l.dropWhile space8).reverse := List.dropWhile_suffix _
  have hpre : trimL l <+: l.dropWhile space8 := by
    have := List.reverse_prefix.2 hsuf
    rw [List.reverse_reverse] at this
    exact this
  obtain ⟨t, ht⟩ := hpre
  have hX : 0 < (l.dropWhile space8).length := by rw [← ht, List.length_append]; omega
  have hn := dropWhile_head_not space8 l hX
  have e : (l.dropWhile space8)[0] = (trimL l)[0] := by
    simp only [← ht]
    rw [List.getElem_append_left h]
  rw [← e]
  exact hn
theorem trimL_of_ends (l : List UInt8) (h1 : ∀ h : 0 < l.length, space8 l[0] = false) (h2 : ∀ h : 0 < l.length, space8 (l[l.length - 1]'(by omega)) = false) : trimL l = l := by
  have e1 : l.dropWhile space8 = l := by
    have := dropWhile_drop space8 l 0 (fun j _ h => by omega) h1
    simpa using this
  have e2 : l.reverse.dropWhile space8 = l.reverse := by
    have := dropWhile_drop space8 l.reverse 0 (fun j _ h => by omega) (fun h => by
      rw [List.length_reverse] at h
      rw [List.getElem_reverse]
      have := h2 h
      simpa using this)
    simpa using this
  unfold trimL
  rw [e1, e2, List.reverse_reverse]
theorem trimL_twice (l : List UInt8) : trimL (trimL l) = trimL l := trimL_of_ends _ (trimL_first l) (trimL_last l)

theorem trimB_twice (s : ByteArray) : trimB (trimB s) = trimB s := by unfold trimB; rw [bs_tx, trimL_twice]
theorem trimB_first (s : ByteArray) (h : 0 < (trimB s).size) : spaceI ((trimB s)[0]).toNat = false :=
  trimL_first (bs s) (by have e : (trimB s).size = (trimL (bs s)).length := tx_size _
                         omega)
theorem trimB_last (s : ByteArray) (h : (trimB s).size - 1 < (trimB s).size) : spaceI ((trimB s)[(trimB s).size - 1]).toNat = false :=
  trimL_last (bs s) (by have e : (trimB s).size = (trimL (bs s)).length := tx_size _
                        omega)
theorem trimB_about (a s b : ByteArray) (ha : (trimB a).toList = []) (hb : (trimB b).toList = []) : trimB (a ++ s ++ b) = trimB s := by
  rw [Go.Lib.toList_data] at ha hb
  have ha' := trimL_blank (bs a) ha
  have hb' := trimL_blank (bs b) hb
  unfold trimB
  rw [bs_append, bs_append, trimL_right _ _ hb', trimL_left _ _ ha']
end Nwl
namespace Go.Proofs.Ythbeeojpdcaimaa
open Nwl
open Go.RowKit
set_option linter.unusedVariables false

theorem Trim_600 (s : ByteArray) (w : World) (hs : s.size ≤ 600) :
    Calls Try.prog 17 #[.string s] w fun e w' => e = .returned (.string (trimB s)) ∧ w = w' := Trim_c s w (by unfold maxLen; omega)

set_option maxRecDepth 100000 in
set_option maxHeartbeats 1000000 in
theorem trim_ne_both (s a b : ByteArray) (w : World) (h1 : s.size ≤ 500) (h2 : a.size ≤ 50) (h3 : b.size ≤ 50) (ht : (trimB s).size ≤ 500) (habs : (a ++ s ++ b).size ≤ 600) (htw : trimB (trimB s) = trimB s)
    (k0 : 0 < (trimB s).size) (k1 : (trimB s).size - 1 < (trimB s).size) (k2 : spaceI ((trimB s)[0]).toNat = false) (k3 : spaceI ((trimB s)[(trimB s).size - 1]).toNat = false) (n1 : ¬ (trimB s).toList = []) (n2 : (trimB s).toList.isEmpty = false)
    (ba : (trimB a).toList = []) (ba2 : (trimB a).toList.isEmpty = true) (bb : (trimB b).toList = []) (bb2 : (trimB b).toList.isEmpty = true) (hfin : trimB (a ++ s ++ b) = trimB s) :
    Calls Try.prog 4 #[.string s, .string a, .string b] w fun e w' => e = .returned (.bool true) ∧ Below w.heap.size w w' := by
  go_enter Try.func4, Try.ntmps4
  go_wp2_with (first
    | (go_at_call 8; refine (awake_c _).mono ?_; rintro e w1 ⟨rfl, hbw⟩)
    | (go_at_call 9; refine (Space_c _ _).mono ?_; rintro e w' ⟨rfl, rfl⟩)
    | (go_at_call 17; refine (Trim_600 _ _ (by omega)).mono ?_; rintro e w' ⟨rfl, rfl⟩))
  go_ret
  exact ⟨rfl, hbw⟩

set_option maxRecDepth 100000 in
set_option maxHeartbeats 1000000 in
theorem trim_ne_left (s a b : ByteArray) (w : World) (h1 : s.size ≤ 500) (h2 : a.size ≤ 50) (h3 : b.size ≤ 50) (ht : (trimB s).size ≤ 500) (habs : (a ++ s ++ b).size ≤ 600) (htw : trimB (trimB s) = trimB s)
    (k0 : 0 < (trimB s).size) (k1 : (trimB s).size - 1 < (trimB s).size) (k2 : spaceI ((trimB s)[0]).toNat = false) (k3 : spaceI ((trimB s)[(trimB s).size - 1]).toNat = false) (n1 : ¬ (trimB s).toList = []) (n2 : (trimB s).toList.isEmpty = false)
    (ba : (trimB a).toList = []) (ba2 : (trimB a).toList.isEmpty = true) (bb : ¬ (trimB b).toList = []) (bb2 : (trimB b).toList.isEmpty = false) :
    Calls Try.prog 4 #[.string s, .string a, .string b] w fun e w' => e = .returned (.bool true) ∧ Below w.heap.size w w' := by
  go_enter Try.func4, Try.ntmps4
  go_wp2_with (first
    | (go_at_call 8; refine (awake_c _).mono ?_; rintro e w1 ⟨rfl, hbw⟩)
    | (go_at_call 9; refine (Space_c _ _).mono ?_; rintro e w' ⟨rfl, rfl⟩)
    | (go_at_call 17; refine (Trim_600 _ _ (by omega)).mono ?_; rintro e w' ⟨rfl, rfl⟩))
  go_ret
  exact ⟨rfl, hbw⟩

set_option maxRecDepth 100000 in
set_option maxHeartbeats 1000000 in
theorem trim_ne_none (s a b : ByteArray) (w : World) (h1 : s.size ≤ 500) (h2 : a.size ≤ 50) (h3 : b.size ≤ 50) (ht : (trimB s).size ≤ 500) (habs : (a ++ s ++ b).size ≤ 600) (htw : trimB (trimB s) = trimB s)
    (k0 : 0 < (trimB s).size) (k1 : (trimB s).size - 1 < (trimB s).size) (k2 : spaceI ((trimB s)[0]).toNat = false) (k3 : spaceI ((trimB s)[(trimB s).size - 1]).toNat = false) (n1 : ¬ (trimB s).toList = []) (n2 : (trimB s).toList.isEmpty = false)
    (ba : ¬ (trimB a).toList = []) (ba2 : (trimB a).toList.isEmpty = false) :
    Calls Try.prog 4 #[.string s, .string a, .string b] w fun e w' => e = .returned (.bool true) ∧ Below w.heap.size w w' := by
  go_enter Try.func4, Try.ntmps4
  go_wp2_with (first
    | (go_at_call 8; refine (awake_c _).mono ?_; rintro e w1 ⟨rfl, hbw⟩)
    | (go_at_call 9; refine (Space_c _ _).mono ?_; rintro e w' ⟨rfl, rfl⟩)
    | (go_at_call 17; refine (Trim_600 _ _ (by omega)).mono ?_; rintro e w' ⟨rfl, rfl⟩))
  go_ret
  exact ⟨rfl, hbw⟩

set_option maxRecDepth 100000 in
set_option maxHeartbeats 1000000 in
theorem trim_em_both (s a b : ByteArray) (w : World) (h1 : s.size ≤ 500) (h2 : a.size ≤ 50) (h3 : b.size ≤ 50) (ht : (trimB s).size ≤ 500) (habs : (a ++ s ++ b).size ≤ 600) (htw : trimB (trimB s) = trimB s)
    (n1 : (trimB s).toList = []) (n2 : (trimB s).toList.isEmpty = true)
    (ba : (trimB a).toList = []) (ba2 : (trimB a).toList.isEmpty = true) (bb : (trimB b).toList = []) (bb2 : (trimB b).toList.isEmpty = true) (hfin : trimB (a ++ s ++ b) = trimB s) :
    Calls Try.prog 4 #[.string s, .string a, .string b] w fun e w' => e = .returned (.bool true) ∧ Below w.heap.size w w' := by
  go_enter Try.func4, Try.ntmps4
  go_wp2_with (first
    | (go_at_call 8; refine (awake_c _).mono ?_; rintro e w1 ⟨rfl, hbw⟩)
    | (go_at_call 9; refine (Space_c _ _).mono ?_; rintro e w' ⟨rfl, rfl⟩)
    | (go_at_call 17; refine (Trim_600 _ _ (by omega)).mono ?_; rintro e w' ⟨rfl, rfl⟩))
  go_ret
  exact ⟨rfl, hbw⟩

set_option maxRecDepth 100000 in
set_option maxHeartbeats 1000000 in
theorem trim_em_left (s a b : ByteArray) (w : World) (h1 : s.size ≤ 500) (h2 : a.size ≤ 50) (h3 : b.size ≤ 50) (ht : (trimB s).size ≤ 500) (habs : (a ++ s ++ b).size ≤ 600) (htw : trimB (trimB s) = trimB s)
    (n1 : (trimB s).toList = []) (n2 : (trimB s).toList.isEmpty = true)
    (ba : (trimB a).toList = []) (ba2 : (trimB a).toList.isEmpty = true) (bb : ¬ (trimB b).toList = []) (bb2 : (trimB b).toList.isEmpty = false) :
    Calls Try.prog 4 #[.string s, .string a, .string b] w fun e w' => e = .returned (.bool true) ∧ Below w.heap.size w w' := by
  go_enter Try.func4, Try.ntmps4
  go_wp2_with (first
    | (go_at_call 8; refine (awake_c _).mono ?_; rintro e w1 ⟨rfl, hbw⟩)
    | (go_at_call 9; refine (Space_c _ _).mono ?_; rintro e w' ⟨rfl, rfl⟩)
    | (go_at_call 17; refine (Trim_600 _ _ (by omega)).mono ?_; rintro e w' ⟨rfl, rfl⟩))
  go_ret
  exact ⟨rfl, hbw⟩

set_option maxRecDepth 100000 in
set_option maxHeartbeats 1000000 in
theorem trim_em_none (s a b : ByteArray) (w : World) (h1 : s.size ≤ 500) (h2 : a.size ≤ 50) (h3 : b.size ≤ 50) (ht : (trimB s).size ≤ 500) (habs : (a ++ s ++ b).size ≤ 600) (htw : trimB (trimB s) = trimB s)
    (n1 : (trimB s).toList = []) (n2 : (trimB s).toList.isEmpty = true)
    (ba : ¬ (trimB a).toList = []) (ba2 : (trimB a).toList.isEmpty = false) :
    Calls Try.prog 4 #[.string s, .string a, .string b] w fun e w' => e = .returned (.bool true) ∧ Below w.heap.size w w' := by
  go_enter Try.func4, Try.ntmps4
  go_wp2_with (first
    | (go_at_call 8; refine (awake_c _).mono ?_; rintro e w1 ⟨rfl, hbw⟩)
    | (go_at_call 9; refine (Space_c _ _).mono ?_; rintro e w' ⟨rfl, rfl⟩)
    | (go_at_call 17; refine (Trim_600 _ _ (by omega)).mono ?_; rintro e w' ⟨rfl, rfl⟩))
  go_ret
  exact ⟨rfl, hbw⟩

set_option maxRecDepth 100000 in
set_option maxHeartbeats 1000000 in
theorem CharsTrim_walk (s a b : ByteArray) (w : World) (hs : s.size ≤ maxLen) (ha : a.size ≤ maxLen) (hb : b.size ≤ maxLen) :
    Calls Try.prog 4 #[.string s, .string a, .string b] w fun e w' => e = .returned (.bool true) ∧ Below w.heap.size w w' := by
  unfold maxLen at hs ha hb
  by_cases h1 : 500 < s.size
  · go_enter Try.func4, Try.ntmps4
    go_wp2_with (go_at_call 8; refine (awake_c _).mono ?_; rintro e w' ⟨rfl, hb⟩)
    go_ret
    exact ⟨rfl, hb⟩
  by_cases h2 : 50 < a.size
  · go_enter Try.func4, Try.ntmps4
    go_wp2_with (go_at_call 8; refine (awake_c _).mono ?_; rintro e w' ⟨rfl, hb⟩)
    go_ret
    exact ⟨rfl, hb⟩
  by_cases h3 : 50 < b.size
  · go_enter Try.func4, Try.ntmps4
    go_wp2_with (go_at_call 8; refine (awake_c _).mono ?_; rintro e w' ⟨rfl, hb⟩)
    go_ret
    exact ⟨rfl, hb⟩
  have ht := trimB_size s
  have htw := trimB_twice s
  have habs : (a ++ s ++ b).size ≤ 600 := by rw [← bs_length, bs_append, bs_append, List.length_append, List.length_append, bs_length, bs_length, bs_length]; omega
  by_cases k0 : 0 < (trimB s).size
  · have n1 : ¬ (trimB s).toList = [] := toList_ne_of _ k0
    have n2 : (trimB s).toList.isEmpty = false := by simpa using n1
    have k1 : (trimB s).size - 1 < (trimB s).size := by omega
    by_cases ba : (trimB a).toList = []
    · by_cases bb : (trimB b).toList = []
      · exact trim_ne_both s a b w (by omega) (by omega) (by omega) (by omega) habs htw k0 k1 (trimB_first s k0) (trimB_last s k1) n1 n2 ba (by simpa using ba) bb (by simpa using bb) (trimB_about a s b ba bb)
      · exact trim_ne_left s a b w (by omega) (by omega) (by omega) (by omega) habs htw k0 k1 (trimB_first s k0) (trimB_last s k1) n1 n2 ba (by simpa using ba) bb (by simpa using bb)
    · exact trim_ne_none s a b w (by omega) (by omega) (by omega) (by omega) habs htw k0 k1 (trimB_first s k0) (trimB_last s k1) n1 n2 ba (by simpa using ba)
  · have n1 : (trimB s).toList = [] := toList_nil_of _ (by omega)
    by_cases ba : (trimB a).toList = []
    · by_cases bb : (trimB b).toList = []
      · exact trim_em_both s a b w (by omega) (by omega) (by omega) (by omega) habs htw n1 (by simpa using n1) ba (by simpa using ba) bb (by simpa using bb) (trimB_about a s b ba bb)
      · exact trim_em_left s a b w (by omega) (by omega) (by omega) (by omega) habs htw n1 (by simpa using n1) ba (by simpa using ba) bb (by simpa using bb)
    · exact trim_em_none s a b w (by omega) (by omega) (by omega) (by omega) habs htw n1 (by simpa using n1) ba (by simpa using ba)
end Go.Proofs.Ythbeeojpdcaimaa
