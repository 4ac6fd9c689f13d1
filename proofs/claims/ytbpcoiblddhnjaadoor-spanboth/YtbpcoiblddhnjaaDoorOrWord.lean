/-
  Contracts of order.wordAt, compareDigits, compareWord and Words.
-/
import Derived.Test.YtbpcoiblddhnjaaDoorOrLib
import Derived.Test.YtbpcoiblddhnjaaDoorWdSame
namespace Nwl
open Go
theorem keyT_8 (a b : Wz) (h : a.k = b.k) (h8 : a.k = 8) : cmpZ a b = Lib.compareBytes a.t b.t := by
  have h8' : b.k = 8 := by omega
  unfold cmpZ keyN keyT
  rw [h8, h8']
  simp [thenI, Lib.compareInt]
theorem keyT_9 (a b : Wz) (h : a.k = b.k) (h9 : a.k = 9 ∨ a.k = 10) : cmpZ a b = thenI (Lib.compareInt a.t.length b.t.length) (Lib.compareBytes a.t b.t) := by
  have h9' : b.k = 9 ∨ b.k = 10 := by omega
  unfold cmpZ keyN keyT
  rw [if_pos h9, if_pos h9', if_pos (by omega), if_pos (by omega), h]
  have : Lib.compareInt b.k b.k = 0 := ord_int.refl _
  rw [this]
  rfl
theorem keyT_no (a b : Wz) (h : a.k = b.k) (h8 : ¬ a.k = 8) (h9 : ¬ (a.k = 9 ∨ a.k = 10)) : cmpZ a b = 0 := by
  unfold cmpZ keyN keyT
  rw [if_neg h9, if_neg (by omega), if_neg (by omega), if_neg (by omega), h]
  have : Lib.compareInt b.k b.k = 0 := ord_int.refl _
  rw [this]
  rfl
theorem cmpZ_kind (a b : Wz) (r : Int) (h : Lib.compareInt a.k b.k = r) (hr : r ≠ 0) : cmpZ a b = r := by
  unfold cmpZ
  rw [h]
  unfold thenI
  rw [if_neg hr]
theorem ci_zero (x y : Int) (h : Lib.compareInt x y = 0) : x = y := by
  unfold Lib.compareInt at h
  split at h
  · omega
  · split at h <;> omega
end Nwl
namespace Go.Proofs.YtbpcoiblddhnjaaDoor
open Nwl
open Go.RowKit Go.Maps
set_option linter.unusedVariables false

abbrev wzV (r : Wz) : Value := .agg #[.int .i64 r.k, .string (tx r.t)]
/-- a row of words of any kind that may be read, below block B -/
def WzR (B : Nat) (w : World) (A : Option Addr) (n : Nat) (l : List Wz) : Prop := n = l.length ∧ ∀ j (hj : j < l.length), ∃ g o, A = some ⟨g, o, none⟩ ∧ g < B ∧ w.cell? ⟨g, o + j * 2, none⟩ = some (.int .i64 l[j].k) ∧ w.cell? ⟨g, o + j * 2 + 1, none⟩ = some (.string (tx l[j].t))
theorem WzR.below {B : Nat} {w w' : World} {A : Option Addr} {n : Nat} {l : List Wz} (h : WzR B w A n l) (hb : Below B w w') : WzR B w' A n l := by
  refine ⟨h.1, fun j hj => ?_⟩
  obtain ⟨g, o, hA, hg, c0, c1⟩ := h.2 j hj
  exact ⟨g, o, hA, hg, (hb.cell (p := ⟨g, o + j * 2, none⟩) hg).trans c0, (hb.cell (p := ⟨g, o + j * 2 + 1, none⟩) hg).trans c1⟩
theorem WzR.mono {B B' : Nat} {w : World} {A : Option Addr} {n : Nat} {l : List Wz} (h : WzR B w A n l) (hb : B ≤ B') : WzR B' w A n l := by
  refine ⟨h.1, fun j hj => ?_⟩
  obtain ⟨g, o, hA, hg, c0, c1⟩ := h.2 j hj
  exact ⟨g, o, hA, by omega, c0, c1⟩
/-- the words that a version was split into -/
theorem WdR.z {B : Nat} {w : World} {A : Option Addr} {n : Nat} {l : List Wd} (h : WdR B w A n l) : WzR B w A n (l.map Wz.of) := by
  refine ⟨by rw [List.length_map]; exact h.1, fun j hj => ?_⟩
  rw [List.length_map] at hj
  obtain ⟨g, hA, hg, c0, c1⟩ := h.2 j hj
  refine ⟨g, 0, hA, hg, ?_, ?_⟩
  · rw [Nat.zero_add, List.getElem_map]; exact c0
  · rw [Nat.zero_add, List.getElem_map]; exact c1

set_option maxRecDepth 100000 in
set_option maxHeartbeats 1000000 in
theorem wordAt_c (A : Option Addr) (n c i : Nat) (l : List Wz) (w : World) (B : Nat) (hB : B ≤ w.heap.size) (h : WzR B w A n l) (hn : n ≤ 1000000000) (hi : i ≤ 1000000000) (r : Wz) (hr : (l.drop i).headD nZ = r) :
    Calls Tryd.prog 78 #[.slice A n c, .int .i64 i] w fun e w' => e = .returned (wzV r) ∧ Bd w w' := by
  have hl := h.1
  by_cases hlt : i < n
  · obtain ⟨g, o, rfl, hg, c0, c1⟩ := h.2 i (by omega)
    have e : l[i]'(by omega) = r := by
      rw [← hr, List.drop_eq_getElem_cons (by omega)]; rfl
    rw [e] at c0 c1
    have hb : Below w.heap.size w (w.alloc (.cells #[.int .i64 0, .string ⟨#[]⟩] 87)) := (Below.refl _ _).alloc (Nat.le_refl _) _
    have d0 : (w.alloc (.cells #[.int .i64 0, .string ⟨#[]⟩] 87)).cell? ⟨g, o + i * 2, none⟩ = some (.int .i64 r.k) := (hb.cell (p := ⟨g, o + i * 2, none⟩) (by show g < _; omega)).trans c0
    have d1 : (w.alloc (.cells #[.int .i64 0, .string ⟨#[]⟩] 87)).cell? ⟨g, o + i * 2 + 1, none⟩ = some (.string (tx r.t)) := (hb.cell (p := ⟨g, o + i * 2 + 1, none⟩) (by show g < _; omega)).trans c1
    clear h hr e hl hb c0 c1
    go_enter Tryd.func78, Tryd.ntmps78
    go_wp2_with fail
    refine bodyPost_ret (v := wzV r) ?_ rfl ⟨rfl, (Bd.refl w).alloc _⟩
    simp [results, Tryd.results78, go_sem]
  · have e : r = nZ := by
      rw [← hr, List.drop_of_length_le (by omega)]; rfl
    subst e
    clear h hr hl
    go_enter Tryd.func78, Tryd.ntmps78
    go_wp2_with fail
    refine bodyPost_ret (v := wzV nZ) ?_ rfl ⟨rfl, (Bd.refl w).alloc _⟩
    simp [results, Tryd.results78, go_sem, nZ, tx]

set_option maxRecDepth 100000 in
set_option maxHeartbeats 1000000 in
theorem compareDigits_c (a b : ByteArray) (w : World) (ha : a.size ≤ maxLen) (hb : b.size ≤ maxLen) (r : Int) (hr : thenI (Lib.compareInt a.size b.size) (Lib.compareBytes (bs a) (bs b)) = r) :
    Calls Tryd.prog 92 #[.string a, .string b] w fun e w' => e = .returned (.int .i64 r) ∧ Bd w w' := by
  obtain ⟨x, hx⟩ : ∃ x, Lib.compareInt a.size b.size = x := ⟨_, rfl⟩
  obtain ⟨y, hy⟩ : ∃ y, Lib.compareBytes (bs a) (bs b) = y := ⟨_, rfl⟩
  rw [hx, hy] at hr
  have HX := Lib.hid hx
  have HY := Lib.hid hy
  have HR := Lib.hid hr
  clear hx hy hr
  go_enter Tryd.func92, Tryd.ntmps92
  go_wp2_with (first
    | (go_at_call 90; refine (cmpInt_c _ _ _ x HX.out).mono ?_; rintro e w' ⟨rfl, rfl⟩)
    | (go_at_call 91; refine (cmpStr_c _ _ _ y HY.out).mono ?_; rintro e w' ⟨rfl, rfl⟩)
    | (go_at_call 104; refine (cmpOr_c w.heap.size x y _ ((Blk.new w 3 #[.int .i64 x, .int .i64 y]).cell 0) ((Blk.new w 3 #[.int .i64 x, .int .i64 y]).cell 1) r HR.out).mono ?_; rintro e w' ⟨rfl, rfl⟩))
  go_ret
  exact ⟨rfl, (Bd.refl w).alloc _⟩

/-- two words' boxes -/
theorem box_both (w : World) (t : TypeId) (a b : Wz) : ((w.alloc (.cells #[.int .i64 a.k, .string (tx a.t)] t)).alloc (.cells #[.int .i64 b.k, .string (tx b.t)] t)).cell? ⟨w.heap.size, 0, none⟩ = some (.int .i64 a.k) := ((Blk.new w t #[.int .i64 a.k, .string (tx a.t)]).alloc _).cell 0

set_option maxRecDepth 100000 in
set_option maxHeartbeats 2000000 in
theorem compareWord_c (a b : Wz) (w : World) (ha : a.t.length ≤ maxLen) (hb : b.t.length ≤ maxLen) (r : Int) (hr : cmpZ a b = r) :
    Calls Tryd.prog 77 #[wzV a, wzV b] w fun e w' => e = .returned (.int .i64 r) ∧ Bd w w' := by
  have HB2 : Hid (Bd w ((w.alloc (.cells #[.int .i64 a.k, .string (tx a.t)] 87)).alloc (.cells #[.int .i64 b.k, .string (tx b.t)] 87))) := Lib.hid (((Bd.refl w).alloc _).alloc _)
  have sa : (tx a.t).size ≤ maxLen := by rw [tx_size]; assumption
  have sb : (tx b.t).size ≤ maxLen := by rw [tx_size]; assumption
  obtain ⟨x, hx⟩ : ∃ x, Lib.compareInt a.k b.k = x := ⟨_, rfl⟩
  have HX := Lib.hid hx
  by_cases hx0 : x = 0
  · subst hx0
    have hk := ci_zero _ _ hx
    by_cases h8 : a.k = 8
    · have HC : Hid (Lib.compareBytes (bs (tx a.t)) (bs (tx b.t)) = r) := Lib.hid (by rw [← hr, keyT_8 a b hk h8]; rfl)
      have hb8 : b.k = 8 := by omega
      obtain ⟨ak, at'⟩ := a
      obtain ⟨bk, bt⟩ := b
      simp only at *
      subst h8 hb8
      clear hr hx hk ha hb sa sb
      go_enter Tryd.func77, Tryd.ntmps77
      go_wp2_with (first
        | (go_at_call 90; refine (cmpInt_c _ _ _ 0 HX.out).mono ?_; rintro e w' ⟨rfl, rfl⟩)
        | (go_at_call 91; refine (cmpStr_c _ _ _ r HC.out).mono ?_; rintro e w' ⟨rfl, rfl⟩))
      go_ret
      exact ⟨rfl, HB2.out⟩
    · by_cases h9 : a.k = 9 ∨ a.k = 10
      · have HC : Hid (thenI (Lib.compareInt (tx a.t).size (tx b.t).size) (Lib.compareBytes (bs (tx a.t)) (bs (tx b.t))) = r) := Lib.hid (by rw [← hr, keyT_9 a b hk h9, tx_size, tx_size]; rfl)
        have hb9 : b.k = 9 ∨ b.k = 10 := by omega
        have HBX : ∀ w2, Hid (Bd ((w.alloc (.cells #[.int .i64 a.k, .string (tx a.t)] 87)).alloc (.cells #[.int .i64 b.k, .string (tx b.t)] 87)) w2 → Bd w w2) := fun w2 => Lib.hid (HB2.out.trans)
        obtain ⟨ak, at'⟩ := a
        obtain ⟨bk, bt⟩ := b
        simp only at *
        subst hk
        rcases h9 with rfl | rfl
        all_goals
          clear hr hx ha hb hb9 h8
          go_enter Tryd.func77, Tryd.ntmps77
          go_wp2_with (first
            | (go_at_call 90; refine (cmpInt_c _ _ _ 0 HX.out).mono ?_; rintro e w' ⟨rfl, rfl⟩)
            | (go_at_call 92; refine (compareDigits_c _ _ _ sa sb r HC.out).mono ?_; rintro e w2 ⟨rfl, hb2⟩))
          go_ret
          exact ⟨rfl, (HBX _).out hb2⟩
      · obtain rfl : 0 = r := by rw [← hr, keyT_no a b hk h8 h9]
        obtain ⟨ak, at'⟩ := a
        obtain ⟨bk, bt⟩ := b
        simp only at *
        subst hk
        have e8 : (ak == 8) = false := by rw [beq_eq_false_iff_ne]; exact h8
        have e9 : (ak == 9) = false := by rw [beq_eq_false_iff_ne]; omega
        have e10 : (ak == 10) = false := by rw [beq_eq_false_iff_ne]; omega
        clear hr hx ha hb h8 h9 sa sb
        go_enter Tryd.func77, Tryd.ntmps77
        go_wp2_with (go_at_call 90; refine (cmpInt_c _ _ _ 0 HX.out).mono ?_; rintro e w' ⟨rfl, rfl⟩)
        go_ret
        exact ⟨rfl, HB2.out⟩
  · obtain rfl : x = r := by rw [← hr]; exact (cmpZ_kind a b x hx hx0).symm
    have e0 : (x != 0) = true := by rw [bne_iff_ne]; exact hx0
    clear hr hx ha hb sa sb
    go_enter Tryd.func77, Tryd.ntmps77
    go_wp2_with (go_at_call 90; refine (cmpInt_c _ _ _ x HX.out).mono ?_; rintro e w' ⟨rfl, rfl⟩)
    go_ret
    exact ⟨rfl, HB2.out⟩
end Go.Proofs.YtbpcoiblddhnjaaDoor
