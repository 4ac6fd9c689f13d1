/-
  Contracts of cmp.Compare, strings.Compare and cmp.Or (of two numbers), walked. Contracts of order.wordAt, compareDigits, compareWord and Words. Contracts of order.Words and order.Compare. Contracts of order.Compare, newVersion and compareVersion. Versions in memory: order.newVersions, order.texts.
-/
import Derived.Test.YthmlggglemnfgaaDoorBa
import Derived.Test.YthmlggglemnfgaaDoorBc
import Derived.Lib.Walk
import Derived.Lib.Slices
import Derived.Test.YthmlggglemnfgaaDoorBd
import Derived.Deep.CutRange
import Derived.Deep.RegionHeld3
import Derived.Laws.MakeOwn
namespace Go.Proofs.YthmlggglemnfgaaDoor
open Nwl
open Go.RowKit Go.Maps
set_option linter.unusedVariables false

/-- as 'Below', and no draw is taken back -/
def Bd (w w' : World) : Prop := Below w.heap.size w w' ∧ w.drawn ≤ w'.drawn
theorem Bd.refl (w : World) : Bd w w := ⟨Below.refl _ _, Nat.le_refl _⟩
theorem Bd.trans {a b c : World} (h : Bd a b) (k : Bd b c) : Bd a c := ⟨h.1.trans (k.1.mono h.1.size), Nat.le_trans h.2 k.2⟩
theorem Bd.alloc {a b : World} (h : Bd a b) (o : Obj) : Bd a (b.alloc o) := ⟨h.1.alloc h.1.size o, h.2⟩
theorem Bd.drew {a b : World} (h : Bd a b) : Bd a b.drew := ⟨h.1.drew, Nat.le_trans h.2 (Nat.le_succ _)⟩
theorem Bd.set {a b : World} (h : Bd a b) {p : Addr} (hp : a.heap.size ≤ p.block) (u : Value) : Bd a (b.setCell p u) := ⟨h.1.setCell hp u, h.2⟩

set_option maxHeartbeats 1000000 in
theorem cmpInt_c (x y : Int) (w : World) (r : Int) (hr : Lib.compareInt x y = r) :
    Calls Tryd.prog 58 #[.int .i64 x, .int .i64 y] w fun e w' => e = .returned (.int .i64 r) ∧ w = w' := by
  subst hr
  go_enter Tryd.func58, Tryd.ntmps58
  go_wp2
  all_goals (go_ret; refine ⟨?_, rfl⟩; unfold Lib.compareInt; (repeat' split) <;> first | rfl | (exfalso; omega))

set_option maxHeartbeats 1000000 in
set_option maxRecDepth 100000 in
theorem cmpBytes_c (a b : ByteArray) (w : World) :
    Calls Tryd.prog 36 #[.string a, .string b] w fun e w' => e = .returned (.int .i64 (Lib.compareBytes a.data.toList b.data.toList)) ∧ w' = w := by
  go_enter Tryd.func36, Tryd.ntmps36
  go_wp2
  rw [run_callFunc_extern Tryd.func43 (by kernel_rfl) (by kernel_rfl) (by kernel_rfl) (e := Extern.BytealgCompare.compare) (by kernel_rfl), Lib.run_compareString]
  simp only [Result.andThen]
  rw [Oper.upon_value]
  go_wp2
  go_ret
  exact ⟨rfl, rfl⟩

set_option maxHeartbeats 1000000 in
theorem cmpStr_c (a b : ByteArray) (w : World) (r : Int) (hr : Lib.compareBytes (bs a) (bs b) = r) :
    Calls Tryd.prog 27 #[.string a, .string b] w fun e w' => e = .returned (.int .i64 r) ∧ w = w' := by
  subst hr
  go_enter Tryd.func27, Tryd.ntmps27
  go_wp2_with (go_at_call 36; refine (cmpBytes_c _ _ _).mono ?_; rintro e w' ⟨rfl, rfl⟩)
  go_ret
  exact ⟨rfl, rfl⟩

set_option maxHeartbeats 1000000 in
set_option maxRecDepth 100000 in
theorem cmpOr_c (g : Nat) (x y : Int) (w : World) (h0 : w.cell? ⟨g, 0, none⟩ = some (.int .i64 x)) (h1 : w.cell? ⟨g, 1, none⟩ = some (.int .i64 y)) (r : Int) (hr : thenI x y = r) :
    Calls Tryd.prog 26 #[.slice (some ⟨g, 0, none⟩) 2 2] w fun e w' => e = .returned (.int .i64 r) ∧ w = w' := by
  by_cases hx : x = 0
  · obtain rfl : y = r := by rw [← hr]; unfold thenI; rw [if_pos hx]
    subst hx
    clear hr
    by_cases hy : y = 0
    · subst hy
      go_enter Tryd.func26, Tryd.ntmps26
      go_wp2_with fail
      refine wp_loop_rounds 3 ?_
      rw [rounds_succ]
      go_wp2_with fail
      rw [rounds_succ]
      go_wp2_with fail
      rw [rounds_succ]
      go_wp2_with fail
      go_ret
      exact ⟨rfl, rfl⟩
    · have hy2 : (y != 0) = true := by rw [bne_iff_ne]; exact hy
      go_enter Tryd.func26, Tryd.ntmps26
      go_wp2_with fail
      refine wp_loop_rounds 2 ?_
      rw [rounds_succ]
      go_wp2_with fail
      rw [rounds_succ]
      go_wp2_with fail
      go_ret
      exact ⟨rfl, rfl⟩
  · obtain rfl : x = r := by rw [← hr]; unfold thenI; rw [if_neg hx]
    have hx2 : (x != 0) = true := by rw [bne_iff_ne]; exact hx
    clear hr
    go_enter Tryd.func26, Tryd.ntmps26
    go_wp2_with fail
    refine wp_loop_rounds 1 ?_
    rw [rounds_succ]
    go_wp2_with fail
    go_ret
    exact ⟨rfl, rfl⟩
end Go.Proofs.YthmlggglemnfgaaDoor

namespace Nwl
open Go
theorem keyT_8 (a b : Wz) (h : a.k = b.k) (h8 : a.k = 8) : cmpZ a b = Lib.compareBytes a.t b.t := by
  have h8' : b.k = 8 := by omega
  unfold cmpZ keyN keyT
  rw [h8, h8']
  simp [thenI, Lib.compareInt]
theorem keyT_9 (a b : Wz) (h : a.k = b.k) (h9 : a.k = 9 ∨ a.k = 10) : cmpZ a b = thenI (Lib.compareInt a.t.length b.t.length) (Lib.compareBytes a.t b.t) := by
  have h9' : b.k = 9 ∨ b.k = 10 := by omega
  unfold cmpZ keyN keyT
  rw [if_pos h9, if_pos h9', if_pos (by omega), if_pos (by omega), h]
  have : Lib.compareInt b.k b.k = 0 := ord_int.refl _
  rw [this]
  rfl
theorem keyT_no (a b : Wz) (h : a.k = b.k) (h8 : ¬ a.k = 8) (h9 : ¬ (a.k = 9 ∨ a.k = 10)) : cmpZ a b = 0 := by
  unfold cmpZ keyN keyT
  rw [if_neg h9, if_neg (by omega), if_neg (by omega), if_neg (by omega), h]
  have : Lib.compareInt b.k b.k = 0 := ord_int.refl _
  rw [this]
  rfl
theorem cmpZ_kind (a b : Wz) (r : Int) (h : Lib.compareInt a.k b.k = r) (hr : r ≠ 0) : cmpZ a b = r := by
  unfold cmpZ
  rw [h]
  unfold thenI
  rw [if_neg hr]
theorem ci_zero (x y : Int) (h : Lib.compareInt x y = 0) : x = y := by
  unfold Lib.compareInt at h
  split at h
  · omega
  · split at h <;> omega
end Nwl
namespace Go.Proofs.YthmlggglemnfgaaDoor
open Nwl
open Go.RowKit Go.Maps
set_option linter.unusedVariables false

abbrev wzV (r : Wz) : Value := .agg #[.int .i64 r.k, .string (tx r.t)]
/-- a row of words of any kind that may be read, below block B -/
def WzR (B : Nat) (w : World) (A : Option Addr) (n : Nat) (l : List Wz) : Prop := n = l.length ∧ ∀ j (hj : j < l.length), ∃ g o, A = some ⟨g, o, none⟩ ∧ g < B ∧ w.cell? ⟨g, o + j * 2, none⟩ = some (.int .i64 l[j].k) ∧ w.cell? ⟨g, o + j * 2 + 1, none⟩ = some (.string (tx l[j].t))
theorem WzR.below {B : Nat} {w w' : World} {A : Option Addr} {n : Nat} {l : List Wz} (h : WzR B w A n l) (hb : Below B w w') : WzR B w' A n l := by
  refine ⟨h.1, fun j hj => ?_⟩
  obtain ⟨g, o, hA, hg, c0, c1⟩ := h.2 j hj
  exact ⟨g, o, hA, hg, (hb.cell (p := ⟨g, o + j * 2, none⟩) hg).trans c0, (hb.cell (p := ⟨g, o + j * 2 + 1, none⟩) hg).trans c1⟩
theorem WzR.mono {B B' : Nat} {w : World} {A : Option Addr} {n : Nat} {l : List Wz} (h : WzR B w A n l) (hb : B ≤ B') : WzR B' w A n l := by
  refine ⟨h.1, fun j hj => ?_⟩
  obtain ⟨g, o, hA, hg, c0, c1⟩ := h.2 j hj
  exact ⟨g, o, hA, by omega, c0, c1⟩
/-- the words that a version was split into -/
theorem WdR.z {B : Nat} {w : World} {A : Option Addr} {n : Nat} {l : List Wd} (h : WdR B w A n l) : WzR B w A n (l.map Wz.of) := by
  refine ⟨by rw [List.length_map]; exact h.1, fun j hj => ?_⟩
  rw [List.length_map] at hj
  obtain ⟨g, hA, hg, c0, c1⟩ := h.2 j hj
  refine ⟨g, 0, hA, hg, ?_, ?_⟩
  · rw [Nat.zero_add, List.getElem_map]; exact c0
  · rw [Nat.zero_add, List.getElem_map]; exact c1

set_option maxRecDepth 100000 in
set_option maxHeartbeats 1000000 in
theorem wordAt_c (A : Option Addr) (n c i : Nat) (l : List Wz) (w : World) (B : Nat) (hB : B ≤ w.heap.size) (h : WzR B w A n l) (hn : n ≤ 1000000000) (hi : i ≤ 1000000000) (r : Wz) (hr : (l.drop i).headD nZ = r) :
    Calls Tryd.prog 45 #[.slice A n c, .int .i64 i] w fun e w' => e = .returned (wzV r) ∧ Bd w w' := by
  have hl := h.1
  by_cases hlt : i < n
  · obtain ⟨g, o, rfl, hg, c0, c1⟩ := h.2 i (by omega)
    have e : l[i]'(by omega) = r := by
      rw [← hr, List.drop_eq_getElem_cons (by omega)]; rfl
    rw [e] at c0 c1
    have hb : Below w.heap.size w (w.alloc (.cells #[.int .i64 0, .string ⟨#[]⟩] 53)) := (Below.refl _ _).alloc (Nat.le_refl _) _
    have d0 : (w.alloc (.cells #[.int .i64 0, .string ⟨#[]⟩] 53)).cell? ⟨g, o + i * 2, none⟩ = some (.int .i64 r.k) := (hb.cell (p := ⟨g, o + i * 2, none⟩) (by show g < _; omega)).trans c0
    have d1 : (w.alloc (.cells #[.int .i64 0, .string ⟨#[]⟩] 53)).cell? ⟨g, o + i * 2 + 1, none⟩ = some (.string (tx r.t)) := (hb.cell (p := ⟨g, o + i * 2 + 1, none⟩) (by show g < _; omega)).trans c1
    clear h hr e hl hb c0 c1
    go_enter Tryd.func45, Tryd.ntmps45
    go_wp2_with fail
    refine bodyPost_ret (v := wzV r) ?_ rfl ⟨rfl, (Bd.refl w).alloc _⟩
    simp [results, Tryd.results45, go_sem]
  · have e : r = nZ := by
      rw [← hr, List.drop_of_length_le (by omega)]; rfl
    subst e
    clear h hr hl
    go_enter Tryd.func45, Tryd.ntmps45
    go_wp2_with fail
    refine bodyPost_ret (v := wzV nZ) ?_ rfl ⟨rfl, (Bd.refl w).alloc _⟩
    simp [results, Tryd.results45, go_sem, nZ, tx]

set_option maxRecDepth 100000 in
set_option maxHeartbeats 1000000 in
theorem compareDigits_c (a b : ByteArray) (w : World) (ha : a.size ≤ maxLen) (hb : b.size ≤ maxLen) (r : Int) (hr : thenI (Lib.compareInt a.size b.size) (Lib.compareBytes (bs a) (bs b)) = r) :
    Calls Tryd.prog 59 #[.string a, .string b] w fun e w' => e = .returned (.int .i64 r) ∧ Bd w w' := by
  obtain ⟨x, hx⟩ : ∃ x, Lib.compareInt a.size b.size = x := ⟨_, rfl⟩
  obtain ⟨y, hy⟩ : ∃ y, Lib.compareBytes (bs a) (bs b) = y := ⟨_, rfl⟩
  rw [hx, hy] at hr
  have HX := Lib.hid hx
  have HY := Lib.hid hy
  have HR := Lib.hid hr
  clear hx hy hr
  go_enter Tryd.func59, Tryd.ntmps59
  go_wp2_with (first
    | (go_at_call 58; refine (cmpInt_c _ _ _ x HX.out).mono ?_; rintro e w' ⟨rfl, rfl⟩)
    | (go_at_call 27; refine (cmpStr_c _ _ _ y HY.out).mono ?_; rintro e w' ⟨rfl, rfl⟩)
    | (go_at_call 26; refine (cmpOr_c w.heap.size x y _ ((Blk.new w 3 #[.int .i64 x, .int .i64 y]).cell 0) ((Blk.new w 3 #[.int .i64 x, .int .i64 y]).cell 1) r HR.out).mono ?_; rintro e w' ⟨rfl, rfl⟩))
  go_ret
  exact ⟨rfl, (Bd.refl w).alloc _⟩

/-- two words' boxes -/
theorem box_both (w : World) (t : TypeId) (a b : Wz) : ((w.alloc (.cells #[.int .i64 a.k, .string (tx a.t)] t)).alloc (.cells #[.int .i64 b.k, .string (tx b.t)] t)).cell? ⟨w.heap.size, 0, none⟩ = some (.int .i64 a.k) := ((Blk.new w t #[.int .i64 a.k, .string (tx a.t)]).alloc _).cell 0

set_option maxRecDepth 100000 in
set_option maxHeartbeats 2000000 in
theorem compareWord_c (a b : Wz) (w : World) (ha : a.t.length ≤ maxLen) (hb : b.t.length ≤ maxLen) (r : Int) (hr : cmpZ a b = r) :
    Calls Tryd.prog 44 #[wzV a, wzV b] w fun e w' => e = .returned (.int .i64 r) ∧ Bd w w' := by
  have HB2 : Hid (Bd w ((w.alloc (.cells #[.int .i64 a.k, .string (tx a.t)] 53)).alloc (.cells #[.int .i64 b.k, .string (tx b.t)] 53))) := Lib.hid (((Bd.refl w).alloc _).alloc _)
  have sa : (tx a.t).size ≤ maxLen := by rw [tx_size]; assumption
  have sb : (tx b.t).size ≤ maxLen := by rw [tx_size]; assumption
  obtain ⟨x, hx⟩ : ∃ x, Lib.compareInt a.k b.k = x := ⟨_, rfl⟩
  have HX := Lib.hid hx
  by_cases hx0 : x = 0
  · subst hx0
    have hk := ci_zero _ _ hx
    by_cases h8 : a.k = 8
    · have HC : Hid (Lib.compareBytes (bs (tx a.t)) (bs (tx b.t)) = r) := Lib.hid (by rw [← hr, keyT_8 a b hk h8]; rfl)
      have hb8 : b.k = 8 := by omega
      obtain ⟨ak, at'⟩ := a
      obtain ⟨bk, bt⟩ := b
      simp only at *
      subst h8 hb8
      clear hr hx hk ha hb sa sb
      go_enter Tryd.func44, Tryd.ntmps44
      go_wp2_with (first
        | (go_at_call 58; refine (cmpInt_c _ _ _ 0 HX.out).mono ?_; rintro e w' ⟨rfl, rfl⟩)
        | (go_at_call 27; refine (cmpStr_c _ _ _ r HC.out).mono ?_; rintro e w' ⟨rfl, rfl⟩))
      go_ret
      exact ⟨rfl, HB2.out⟩
    · by_cases h9 : a.k = 9 ∨ a.k = 10
      · have HC : Hid (thenI (Lib.compareInt (tx a.t).size (tx b.t).size) (Lib.compareBytes (bs (tx a.t)) (bs (tx b.t))) = r) := Lib.hid (by rw [← hr, keyT_9 a b hk h9, tx_size, tx_size]; rfl)
        have hb9 : b.k = 9 ∨ b.k = 10 := by omega
        have HBX : ∀ w2, Hid (Bd ((w.alloc (.cells #[.int .i64 a.k, .string (tx a.t)] 53)).alloc (.cells #[.int .i64 b.k, .string (tx b.t)] 53)) w2 → Bd w w2) := fun w2 => Lib.hid (HB2.out.trans)
        obtain ⟨ak, at'⟩ := a
        obtain ⟨bk, bt⟩ := b
        simp only at *
        subst hk
        rcases h9 with rfl | rfl
        all_goals
          clear hr hx ha hb hb9 h8
          go_enter Tryd.func44, Tryd.ntmps44
          go_wp2_with (first
            | (go_at_call 58; refine (cmpInt_c _ _ _ 0 HX.out).mono ?_; rintro e w' ⟨rfl, rfl⟩)
            | (go_at_call 59; refine (compareDigits_c _ _ _ sa sb r HC.out).mono ?_; rintro e w2 ⟨rfl, hb2⟩))
          go_ret
          exact ⟨rfl, (HBX _).out hb2⟩
      · obtain rfl : 0 = r := by rw [← hr, keyT_no a b hk h8 h9]
        obtain ⟨ak, at'⟩ := a
        obtain ⟨bk, bt⟩ := b
        simp only at *
        subst hk
        have e8 : (ak == 8) = false := by rw [beq_eq_false_iff_ne]; exact h8
        have e9 : (ak == 9) = false := by rw [beq_eq_false_iff_ne]; omega
        have e10 : (ak == 10) = false := by rw [beq_eq_false_iff_ne]; omega
        clear hr hx ha hb h8 h9 sa sb
        go_enter Tryd.func44, Tryd.ntmps44
        go_wp2_with (go_at_call 58; refine (cmpInt_c _ _ _ 0 HX.out).mono ?_; rintro e w' ⟨rfl, rfl⟩)
        go_ret
        exact ⟨rfl, HB2.out⟩
  · obtain rfl : x = r := by rw [← hr]; exact (cmpZ_kind a b x hx hx0).symm
    have e0 : (x != 0) = true := by rw [bne_iff_ne]; exact hx0
    clear hr hx ha hb sa sb
    go_enter Tryd.func44, Tryd.ntmps44
    go_wp2_with (go_at_call 58; refine (cmpInt_c _ _ _ x HX.out).mono ?_; rintro e w' ⟨rfl, rfl⟩)
    go_ret
    exact ⟨rfl, HB2.out⟩
end Go.Proofs.YthmlggglemnfgaaDoor

namespace Nwl
open Go
theorem wordsC_end (a b : List Wz) (i : Nat) (h1 : a.length ≤ i) (h2 : b.length ≤ i) : wordsC (a.drop i) (b.drop i) = 0 := by
  rw [List.drop_of_length_le h1, List.drop_of_length_le h2]; rfl
theorem wordsC_go (a b : List Wz) (i : Nat) : wordsC (a.drop i) (b.drop i) = thenI (cmpZ ((a.drop i).headD nZ) ((b.drop i).headD nZ)) (wordsC (a.drop (i + 1)) (b.drop (i + 1))) := by
  rw [wordsC_step, List.tail_drop, List.tail_drop]
def ShortW (l : List Wz) : Prop := ∀ x ∈ l, x.t.length ≤ maxLen
theorem ShortW.head {l : List Wz} (h : ShortW l) (i : Nat) : ((l.drop i).headD nZ).t.length ≤ maxLen := by
  rcases Nat.lt_or_ge i l.length with hi | hi
  · rw [List.drop_eq_getElem_cons hi]
    exact h _ (List.getElem_mem hi)
  · rw [List.drop_of_length_le hi]
    show 0 ≤ maxLen
    omega
end Nwl
namespace Go.Proofs.YthmlggglemnfgaaDoor
open Nwl
open Go.RowKit Go.Maps
set_option linter.unusedVariables false

set_option maxRecDepth 100000 in
set_option maxHeartbeats 2000000 in
theorem Words_c (A1 A2 : Option Addr) (n1 n2 c1 c2 : Nat) (l1 l2 : List Wz) (w : World) (B : Nat) (hB : B ≤ w.heap.size) (h1 : WzR B w A1 n1 l1) (h2 : WzR B w A2 n2 l2) (hm1 : n1 ≤ 1000000) (hm2 : n2 ≤ 1000000) (s1 : ShortW l1) (s2 : ShortW l2) (F : Int) (hF : wordsC l1 l2 = F) :
    Calls Tryd.prog 37 #[.slice A1 n1 c1, .slice A2 n2 c2] w fun e w' => e = .returned (.int .i64 F) ∧ Bd w w' := by
  have hF0 : wordsC (l1.drop 0) (l2.drop 0) = F := by rw [List.drop_zero, List.drop_zero]; exact hF
  have HF := Lib.hid hF0
  have HL : Hid (n1 = l1.length ∧ n2 = l2.length) := Lib.hid ⟨h1.1, h2.1⟩
  have H1 := Lib.hid h1
  have H2 := Lib.hid h2
  have S1 := Lib.hid s1
  have S2 := Lib.hid s2
  clear hF hF0 h1 h2 s1 s2
  go_enter Tryd.func37, Tryd.ntmps37
  go_wp2_with fail
  refine wp_scope_again 0 (fun a' w' => ∃ (i : Nat) (u6 u7 u8 u9 u10 u11 u12 u13 u14 u15 u16 u17 u18 u19 u20 u21 u22 u23 u24 u25 u26 u27 u28 : Value), a' = { tmps := #[.slice A1 n1 c1, .slice A2 n2 c2, undef, undef, .int .i64 0, .int .i64 i, u6, u7, u8, u9, u10, u11, u12, u13, u14, u15, u16, u17, u18, u19, u20, u21, u22, u23, u24, u25, u26, u27, u28], defers := [] } ∧ i ≤ 1000000 ∧ Hid (i ≤ n1 ∨ i ≤ n2) ∧ Hid (wordsC (l1.drop i) (l2.drop i) = F) ∧ Hid (Bd w w')) (fun a' _ => n1 + n2 - (intOf (a'.tmps.getD 5 undef)).toNat) rfl ?_ ?_
  · rintro a' w' ⟨i, u6, u7, u8, u9, u10, u11, u12, u13, u14, u15, u16, u17, u18, u19, u20, u21, u22, u23, u24, u25, u26, u27, u28, rfl, hi, hin, hgo, hbd⟩
    by_cases hend : n1 ≤ i ∧ n2 ≤ i
    · have e1 : n1 ≤ i := hend.1
      have e2 : n2 ≤ i := hend.2
      have hz : Hid (0 = F) := Lib.hid (by rw [← hgo.out, wordsC_end _ _ _ (by rw [← HL.out.1]; exact e1) (by rw [← HL.out.2]; exact e2)])
      clear hend hgo hin
      go_wp2_with fail
      simp only [Exit.jump]
      go_ret
      obtain rfl := hz.out
      exact ⟨rfl, hbd.out⟩
    · have hlt : i + 1 ≤ n1 ∨ i + 1 ≤ n2 := by omega
      obtain ⟨x, hx⟩ : ∃ x, (l1.drop i).headD nZ = x := ⟨_, rfl⟩
      obtain ⟨y, hy⟩ : ∃ y, (l2.drop i).headD nZ = y := ⟨_, rfl⟩
      have hg := hgo.out
      rw [wordsC_go, hx, hy] at hg
      have lx : Hid (x.t.length ≤ maxLen) := Lib.hid (by rw [← hx]; exact S1.out.head i)
      have ly : Hid (y.t.length ≤ maxLen) := Lib.hid (by rw [← hy]; exact S2.out.head i)
      have HX := Lib.hid hx
      have HY := Lib.hid hy
      obtain ⟨q, hq⟩ : ∃ q, cmpZ x y = q := ⟨_, rfl⟩
      rw [hq] at hg
      have HQ := Lib.hid hq
      have HG := Lib.hid hg
      have HLT := Lib.hid hlt
      have hBw : Hid (B ≤ w'.heap.size) := Lib.hid (Nat.le_trans hB hbd.out.1.size)
      have R1 := Lib.hid (H1.out.below (hbd.out.1.mono hB))
      have R2 := Lib.hid (H2.out.below (hbd.out.1.mono hB))
      have hm1' : n1 ≤ 1000000000 := by omega
      have hm2' : n2 ≤ 1000000000 := by omega
      have hi' : i ≤ 1000000000 := by omega
      clear hx hy hq hg hgo hlt
      by_cases hq0 : q = 0
      · subst hq0
        by_cases p1 : n1 ≤ i
        · have p2 : ¬ n2 ≤ i := fun h => hend ⟨p1, h⟩
          clear hend
          have hg2 : Hid (wordsC (l1.drop (i + 1)) (l2.drop (i + 1)) = F) := Lib.hid HG.out
          go_wp2_with fail
          refine (wordAt_c A1 n1 c1 i l1 _ B hBw.out R1.out hm1' hi' x HX.out).mono ?_
          rintro e w1 ⟨rfl, hb1⟩
          have Z2 : Hid (B ≤ w1.heap.size ∧ WzR B w1 A2 n2 l2) := Lib.hid ⟨Nat.le_trans hBw.out hb1.1.size, R2.out.below (hb1.1.mono hBw.out)⟩
          have K1 := Lib.hid hb1
          clear hb1
          go_wp2_with fail
          refine (wordAt_c A2 n2 c2 i l2 _ B Z2.out.1 Z2.out.2 hm2' hi' y HY.out).mono ?_
          rintro e w2 ⟨rfl, hb2⟩
          have K2 := Lib.hid (K1.out.trans hb2)
          clear hb2
          go_wp2_with fail
          refine (compareWord_c x y _ lx.out ly.out 0 HQ.out).mono ?_
          rintro e w3 ⟨rfl, hb3⟩
          have K3 := Lib.hid (hbd.out.trans (K2.out.trans hb3))
          clear hb3
          go_wp2_with fail
          go_step3
          refine ⟨rfl, ⟨i + 1, _, _, _, _, _, _, _, _, _, _, _, _, _, _, _, _, _, _, _, _, _, _, _, rfl, by have := HLT.out; omega, HLT, hg2, K3⟩, ?_⟩
          have := HLT.out
          simp [intOf]
          omega
        · clear hend
          have hg2 : Hid (wordsC (l1.drop (i + 1)) (l2.drop (i + 1)) = F) := Lib.hid HG.out
          go_wp2_with fail
          refine (wordAt_c A1 n1 c1 i l1 _ B hBw.out R1.out hm1' hi' x HX.out).mono ?_
          rintro e w1 ⟨rfl, hb1⟩
          have Z2 : Hid (B ≤ w1.heap.size ∧ WzR B w1 A2 n2 l2) := Lib.hid ⟨Nat.le_trans hBw.out hb1.1.size, R2.out.below (hb1.1.mono hBw.out)⟩
          have K1 := Lib.hid hb1
          clear hb1
          go_wp2_with fail
          refine (wordAt_c A2 n2 c2 i l2 _ B Z2.out.1 Z2.out.2 hm2' hi' y HY.out).mono ?_
          rintro e w2 ⟨rfl, hb2⟩
          have K2 := Lib.hid (K1.out.trans hb2)
          clear hb2
          go_wp2_with fail
          refine (compareWord_c x y _ lx.out ly.out 0 HQ.out).mono ?_
          rintro e w3 ⟨rfl, hb3⟩
          have K3 := Lib.hid (hbd.out.trans (K2.out.trans hb3))
          clear hb3
          go_wp2_with fail
          go_step3
          refine ⟨rfl, ⟨i + 1, _, _, _, _, _, _, _, _, _, _, _, _, _, _, _, _, _, _, _, _, _, _, _, rfl, by have := HLT.out; omega, HLT, hg2, K3⟩, ?_⟩
          have := HLT.out
          simp [intOf]
          omega
      · have hqf : Hid (q = F) := Lib.hid (by rw [← HG.out]; unfold thenI; rw [if_neg hq0])
        have e0 : (q != 0) = true := by rw [bne_iff_ne]; exact hq0
        by_cases p1 : n1 ≤ i
        · have p2 : ¬ n2 ≤ i := fun h => hend ⟨p1, h⟩
          clear hend
          go_wp2_with fail
          refine (wordAt_c A1 n1 c1 i l1 _ B hBw.out R1.out hm1' hi' x HX.out).mono ?_
          rintro e w1 ⟨rfl, hb1⟩
          have Z2 : Hid (B ≤ w1.heap.size ∧ WzR B w1 A2 n2 l2) := Lib.hid ⟨Nat.le_trans hBw.out hb1.1.size, R2.out.below (hb1.1.mono hBw.out)⟩
          have K1 := Lib.hid hb1
          clear hb1
          go_wp2_with fail
          refine (wordAt_c A2 n2 c2 i l2 _ B Z2.out.1 Z2.out.2 hm2' hi' y HY.out).mono ?_
          rintro e w2 ⟨rfl, hb2⟩
          have K2 := Lib.hid (K1.out.trans hb2)
          clear hb2
          go_wp2_with fail
          refine (compareWord_c x y _ lx.out ly.out q HQ.out).mono ?_
          rintro e w3 ⟨rfl, hb3⟩
          have K3 := Lib.hid (hbd.out.trans (K2.out.trans hb3))
          clear hb3
          go_wp2_with fail
          simp only [Exit.jump]
          go_ret
          obtain rfl := hqf.out
          exact ⟨rfl, K3.out⟩
        · clear hend
          go_wp2_with fail
          refine (wordAt_c A1 n1 c1 i l1 _ B hBw.out R1.out hm1' hi' x HX.out).mono ?_
          rintro e w1 ⟨rfl, hb1⟩
          have Z2 : Hid (B ≤ w1.heap.size ∧ WzR B w1 A2 n2 l2) := Lib.hid ⟨Nat.le_trans hBw.out hb1.1.size, R2.out.below (hb1.1.mono hBw.out)⟩
          have K1 := Lib.hid hb1
          clear hb1
          go_wp2_with fail
          refine (wordAt_c A2 n2 c2 i l2 _ B Z2.out.1 Z2.out.2 hm2' hi' y HY.out).mono ?_
          rintro e w2 ⟨rfl, hb2⟩
          have K2 := Lib.hid (K1.out.trans hb2)
          clear hb2
          go_wp2_with fail
          refine (compareWord_c x y _ lx.out ly.out q HQ.out).mono ?_
          rintro e w3 ⟨rfl, hb3⟩
          have K3 := Lib.hid (hbd.out.trans (K2.out.trans hb3))
          clear hb3
          go_wp2_with fail
          simp only [Exit.jump]
          go_ret
          obtain rfl := hqf.out
          exact ⟨rfl, K3.out⟩
  · intro hpass
    go_wp2_with fail
    go_step3
    rename_i hK
    exact hK _ _ (hpass.out _ _ ⟨0, _, _, _, _, _, _, _, _, _, _, _, _, _, _, _, _, _, _, _, _, _, _, _, rfl, by omega, Lib.hid (Or.inl (Nat.zero_le _)), HF, Lib.hid (Bd.refl w)⟩)
end Go.Proofs.YthmlggglemnfgaaDoor

namespace Nwl
open Go
theorem partsF_short : ∀ (f : Nat) (d : Bool) (l : List UInt8), ∀ p ∈ partsF f d l, p.s.length ≤ l.length
  | 0, _, _, p, hp => by simp [partsF] at hp
  | f + 1, d, l, p, hp => by
    rw [partsF] at hp
    rcases List.mem_cons.1 hp with rfl | hp
    · show (l.take (partN l)).length ≤ _
      rw [List.length_take]; omega
    · split at hp
      · simp at hp
      · have h1 := partsF_short f _ _ p hp
        have h2 := nextL_le (l.drop (partN l))
        rw [List.length_drop] at h2
        omega
theorem numW_short (s : List UInt8) (d : Bool) : (numW s d).t.length ≤ s.length := by
  have hd : (s.dropWhile (fun c : UInt8 => c.toNat == 48)).length ≤ s.length := (List.dropWhile_sublist _).length_le
  cases he : (s.dropWhile (fun c : UInt8 => c.toNat == 48)).isEmpty with
  | true =>
    have : numW s d = ⟨6, []⟩ := by unfold numW; simp only [he, if_true]
    rw [this]; exact Nat.zero_le _
  | false =>
    cases d with
    | true =>
      have : numW s true = ⟨9, s.dropWhile (fun c : UInt8 => c.toNat == 48)⟩ := by unfold numW; simp [he]
      rw [this]; exact hd
    | false =>
      have : numW s false = ⟨10, s.dropWhile (fun c : UInt8 => c.toNat == 48)⟩ := by unfold numW; simp [he]
      rw [this]; exact hd
theorem wordW_short (s : List UInt8) (d n : Bool) : (wordW s d n).t.length ≤ s.length := by
  unfold wordW
  split
  · exact numW_short s d
  · split
    · exact Nat.le_refl _
    · exact Nat.zero_le _
theorem cleanW_sub : ∀ (ws : List Wd), ∀ x ∈ cleanW ws, x ∈ ws
  | [], x, h => by simp [cleanW] at h
  | w :: ws, x, h => by
    rw [cleanW] at h
    split at h
    · exact List.mem_cons_of_mem _ (cleanW_sub ws x h)
    · rcases List.mem_cons.1 h with rfl | h
      · exact List.mem_cons_self
      · exact List.mem_cons_of_mem _ (cleanW_sub ws x h)
theorem spZ_short (l : List UInt8) (h : l.length ≤ 100000) : ShortW (spZ l) := by
  intro x hx
  obtain ⟨y, hy, rfl⟩ := List.mem_map.1 hx
  have h1 := cleanW_sub _ y hy
  obtain ⟨p, hp, rfl⟩ := List.mem_map.1 h1
  have h2 := partsF_short _ _ _ p hp
  have h3 := wordW_short p.s p.dash p.num
  have h4 : (lowerL l).length = l.length := by unfold lowerL; rw [List.length_map]
  show (wordW p.s p.dash p.num).t.length ≤ maxLen
  unfold maxLen
  omega
theorem cleanW_le : ∀ ws : List Wd, (cleanW ws).length ≤ ws.length
  | [] => Nat.le_refl _
  | w :: ws => by
    have := cleanW_le ws
    rw [cleanW]
    split <;> simp <;> omega
theorem partsF_le : ∀ (f : Nat) (d : Bool) (l : List UInt8), (partsF f d l).length ≤ f
  | 0, _, _ => Nat.le_refl _
  | f + 1, d, l => by
    have := partsF_le f (dashL (l.drop (partN l))) (nextL (l.drop (partN l)))
    rw [partsF, List.length_cons]
    split <;> simp <;> omega
theorem splitW_le (l : List UInt8) : (splitW l).length ≤ l.length + 1 := by
  unfold splitW wordsL partsL partsD
  refine Nat.le_trans (cleanW_le _) ?_
  rw [List.length_map]
  refine Nat.le_trans (partsF_le _ _ _) ?_
  unfold lowerL
  rw [List.length_map]
  exact Nat.le_refl _
end Nwl
namespace Go.Proofs.YthmlggglemnfgaaDoor
open Nwl
open Go.RowKit Go.Maps
set_option linter.unusedVariables false

set_option maxRecDepth 100000 in
set_option maxHeartbeats 1000000 in
theorem Compare_c (a b : ByteArray) (w : World) (ha : a.size ≤ 1000) (hb : b.size ≤ 1000) (F : Int) (hF : cmpV (bs a) (bs b) = F) :
    Calls Tryd.prog 28 #[.string a, .string b] w fun e w' => e = .returned (.int .i64 F) ∧ Hid (Below w.heap.size w w') := by
  obtain ⟨X, hX⟩ : ∃ X, splitW (bs a) = X := ⟨_, rfl⟩
  obtain ⟨Y, hY⟩ : ∃ Y, splitW (bs b) = Y := ⟨_, rfl⟩
  have HF : Hid (wordsC (X.map Wz.of) (Y.map Wz.of) = F) := Lib.hid (by rw [← hF, ← hX, ← hY]; rfl)
  have SX : Hid (ShortW (X.map Wz.of)) := Lib.hid (by rw [← hX]; exact spZ_short _ (by rw [bs_length]; omega))
  have SY : Hid (ShortW (Y.map Wz.of)) := Lib.hid (by rw [← hY]; exact spZ_short _ (by rw [bs_length]; omega))
  obtain ⟨m, hm⟩ : ∃ m, X.length = m := ⟨_, rfl⟩
  obtain ⟨n, hn⟩ : ∃ n, Y.length = n := ⟨_, rfl⟩
  have lm : m ≤ 1000000 := by have := splitW_le (bs a); rw [hX, hm, bs_length] at this; omega
  have ln : n ≤ 1000000 := by have := splitW_le (bs b); rw [hY, hn, bs_length] at this; omega
  have HX := Lib.hid hX
  have HY := Lib.hid hY
  have HM := Lib.hid hm
  have HN := Lib.hid hn
  have ha' : a.size ≤ 100000 := by omega
  have hb' : b.size ≤ 100000 := by omega
  clear hF hX hY hm hn ha hb
  go_enter Tryd.func28, Tryd.ntmps28
  go_wp2_with fail
  refine (Split_b a _ ha' X HX.out m HM.out).mono ?_
  rintro e w1 ⟨A1, c1, rfl, R1, B1⟩
  go_wp2_with fail
  refine (Split_b b _ hb' Y HY.out n HN.out).mono ?_
  rintro e w2 ⟨A2, c2, rfl, R2, B2⟩
  have R12 := Lib.hid ((R1.out.below B2.out).mono B2.out.size)
  have B12 := Lib.hid (B1.out.trans (B2.out.mono B1.out.size))
  go_wp2_with fail
  refine (Words_c A1 A2 m n c1 c2 _ _ _ w2.heap.size (Nat.le_refl _) R12.out.z R2.out.z lm ln SX.out SY.out F HF.out).mono ?_
  rintro e w3 ⟨rfl, hb3⟩
  have B3 := Lib.hid (B12.out.trans (hb3.1.mono B12.out.size))
  clear hb3
  go_wp2_with fail
  go_ret
  exact ⟨rfl, B3⟩

end Go.Proofs.YthmlggglemnfgaaDoor

namespace Nwl
open Go
/-- a version in memory: its text, and its words -/
structure Vn where
  t : List UInt8
  A : Option Addr
  n : Nat
  c : Nat
theorem madeCells_get (z : Array Value) (m i : Nat) (h : i < m) : (madeCells z m)[i]? = some (z[i % z.size]!) := by
  unfold madeCells
  simp [h]
end Nwl
namespace Go.Proofs.YthmlggglemnfgaaDoor
open Nwl
open Go.RowKit Go.Maps
set_option linter.unusedVariables false

end Go.Proofs.YthmlggglemnfgaaDoor