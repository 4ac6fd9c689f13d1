/-
  Contracts of cmp.Compare, strings.Compare and cmp.Or (of two numbers), walked. Contracts of order.wordAt, compareDigits, compareWord and Words. Contracts of order.Words and order.Compare. Contracts of order.Compare, newVersion and compareVersion. Versions in memory: order.newVersions, order.texts.
-/
import Derived.Test.YtjmjklmndokdiaaDoorBa
import Derived.Test.YtjmjklmndokdiaaDoorBc
import Derived.Lib.Walk
import Derived.Lib.Slices
import Derived.Test.YtjmjklmndokdiaaDoorBd
import Derived.Deep.CutRange
import Derived.Deep.RegionHeld3
import Derived.Laws.MakeOwn
namespace Go.Proofs.YtjmjklmndokdiaaDoor
open Nwl
open Go.RowKit Go.Maps
set_option linter.unusedVariables false

/-- as 'Below', and no draw is taken back -/
def Bd (w w' : World) : Prop := Below w.heap.size w w' ∧ w.drawn ≤ w'.drawn
theorem Bd.refl (w : World) : Bd w w := ⟨Below.refl _ _, Nat.le_refl _⟩
theorem Bd.trans {a b c : World} (h : Bd a b) (k : Bd b c) : Bd a c := ⟨h.1.trans (k.1.mono h.1.size), Nat.le_trans h.2 k.2⟩
theorem Bd.alloc {a b : World} (h : Bd a b) (o : Obj) : Bd a (b.alloc o) := ⟨h.1.alloc h.1.size o, h.2⟩
theorem Bd.drew {a b : World} (h : Bd a b) : Bd a b.drew := ⟨h.1.drew, Nat.le_trans h.2 (Nat.le_succ _)⟩
theorem Bd.set {a b : World} (h : Bd a b) {p : Addr} (hp : a.heap.size ≤ p.block) (u : Value) : Bd a (b.setCell p u) := ⟨h.1.setCell hp u, h.2⟩

set_option maxHeartbeats 1000000 in
theorem cmpInt_c (x y : Int) (w : World) (r : Int) (hr : Lib.compareInt x y = r) :
    Calls Tryd.prog 42 #[.int .i64 x, .int .i64 y] w fun e w' => e = .returned (.int .i64 r) ∧ w = w' := by
  subst hr
  go_enter Tryd.func42, Tryd.ntmps42
  go_wp2
  all_goals (go_ret; refine ⟨?_, rfl⟩; unfold Lib.compareInt; (repeat' split) <;> first | rfl | (exfalso; omega))

set_option maxHeartbeats 1000000 in
set_option maxRecDepth 100000 in
theorem cmpBytes_c (a b : ByteArray) (w : World) :
    Calls Tryd.prog 47 #[.string a, .string b] w fun e w' => e = .returned (.int .i64 (Lib.compareBytes a.data.toList b.data.toList)) ∧ w' = w := by
  go_enter Tryd.func47, Tryd.ntmps47
  go_wp2
  rw [run_callFunc_extern Tryd.func66 (by kernel_rfl) (by kernel_rfl) (by kernel_rfl) (e := Extern.BytealgCompare.compare) (by kernel_rfl), Lib.run_compareString]
  simp only [Result.andThen]
  rw [Oper.upon_value]
  go_wp2
  go_ret
  exact ⟨rfl, rfl⟩

set_option maxHeartbeats 1000000 in
theorem cmpStr_c (a b : ByteArray) (w : World) (r : Int) (hr : Lib.compareBytes (bs a) (bs b) = r) :
    Calls Tryd.prog 32 #[.string a, .string b] w fun e w' => e = .returned (.int .i64 r) ∧ w = w' := by
  subst hr
  go_enter Tryd.func32, Tryd.ntmps32
  go_wp2_with (go_at_call 47; refine (cmpBytes_c _ _ _).mono ?_; rintro e w' ⟨rfl, rfl⟩)
  go_ret
  exact ⟨rfl, rfl⟩

set_option maxHeartbeats 1000000 in
set_option maxRecDepth 100000 in
theorem cmpOr_c (g : Nat) (x y : Int) (w : World) (h0 : w.cell? ⟨g, 0, none⟩ = some (.int .i64 x)) (h1 : w.cell? ⟨g, 1, none⟩ = some (.int .i64 y)) (r : Int) (hr : thenI x y = r) :
    Calls Tryd.prog 31 #[.slice (some ⟨g, 0, none⟩) 2 2] w fun e w' => e = .returned (.int .i64 r) ∧ w = w' := by
  by_cases hx : x = 0
  · obtain rfl : y = r := by rw [← hr]; unfold thenI; rw [if_pos hx]
    subst hx
    clear hr
    by_cases hy : y = 0
    · subst hy
      go_enter Tryd.func31, Tryd.ntmps31
      go_wp2_with fail
      refine wp_loop_rounds 3 ?_
      rw [rounds_succ]
      go_wp2_with fail
      rw [rounds_succ]
      go_wp2_with fail
      rw [rounds_succ]
      go_wp2_with fail
      go_ret
      exact ⟨rfl, rfl⟩
    · have hy2 : (y != 0) = true := by rw [bne_iff_ne]; exact hy
      go_enter Tryd.func31, Tryd.ntmps31
      go_wp2_with fail
      refine wp_loop_rounds 2 ?_
      rw [rounds_succ]
      go_wp2_with fail
      rw [rounds_succ]
      go_wp2_with fail
      go_ret
      exact ⟨rfl, rfl⟩
  · obtain rfl : x = r := by rw [← hr]; unfold thenI; rw [if_neg hx]
    have hx2 : (x != 0) = true := by rw [bne_iff_ne]; exact hx
    clear hr
    go_enter Tryd.func31, Tryd.ntmps31
    go_wp2_with fail
    refine wp_loop_rounds 1 ?_
    rw [rounds_succ]
    go_wp2_with fail
    go_ret
    exact ⟨rfl, rfl⟩
end Go.Proofs.YtjmjklmndokdiaaDoor

namespace Nwl
open Go
theorem keyT_8 (a b : Wz) (h : a.k = b.k) (h8 : a.k = 8) : cmpZ a b = Lib.compareBytes a.t b.t := by
  have h8' : b.k = 8 := by omega
  unfold cmpZ keyN keyT
  rw [h8, h8']
  simp [thenI, Lib.compareInt]
theorem keyT_9 (a b : Wz) (h : a.k = b.k) (h9 : a.k = 9 ∨ a.k = 10) : cmpZ a b = thenI (Lib.compareInt a.t.length b.t.length) (Lib.compareBytes a.t b.t) := by
  have h9' : b.k = 9 ∨ b.k = 10 := by omega
  unfold cmpZ keyN keyT
  rw [if_pos h9, if_pos h9', if_pos (by omega), if_pos (by omega), h]
  have : Lib.compareInt b.k b.k = 0 := ord_int.refl _
  rw [this]
  rfl
theorem keyT_no (a b : Wz) (h : a.k = b.k) (h8 : ¬ a.k = 8) (h9 : ¬ (a.k = 9 ∨ a.k = 10)) : cmpZ a b = 0 := by
  unfold cmpZ keyN keyT
  rw [if_neg h9, if_neg (by omega), if_neg (by omega), if_neg (by omega), h]
  have : Lib.compareInt b.k b.k = 0 := ord_int.refl _
  rw [this]
  rfl
theorem cmpZ_kind (a b : Wz) (r : Int) (h : Lib.compareInt a.k b.k = r) (hr : r ≠ 0) : cmpZ a b = r := by
  unfold cmpZ
  rw [h]
  unfold thenI
  rw [if_neg hr]
theorem ci_zero (x y : Int) (h : Lib.compareInt x y = 0) : x = y := by
  unfold Lib.compareInt at h
  split at h
  · omega
  · split at h <;> omega
end Nwl
namespace Go.Proofs.YtjmjklmndokdiaaDoor
open Nwl
open Go.RowKit Go.Maps
set_option linter.unusedVariables false

abbrev wzV (r : Wz) : Value := .agg #[.int .i64 r.k, .string (tx r.t)]
/-- a row of words of any kind that may be read, below block B -/
def WzR (B : Nat) (w : World) (A : Option Addr) (n : Nat) (l : List Wz) : Prop := n = l.length ∧ ∀ j (hj : j < l.length), ∃ g o, A = some ⟨g, o, none⟩ ∧ g < B ∧ w.cell? ⟨g, o + j * 2, none⟩ = some (.int .i64 l[j].k) ∧ w.cell? ⟨g, o + j * 2 + 1, none⟩ = some (.string (tx l[j].t))
theorem WzR.below {B : Nat} {w w' : World} {A : Option Addr} {n : Nat} {l : List Wz} (h : WzR B w A n l) (hb : Below B w w') : WzR B w' A n l := by
  refine ⟨h.1, fun j hj => ?_⟩
  obtain ⟨g, o, hA, hg, c0, c1⟩ := h.2 j hj
  exact ⟨g, o, hA, hg, (hb.cell (p := ⟨g, o + j * 2, none⟩) hg).trans c0, (hb.cell (p := ⟨g, o + j * 2 + 1, none⟩) hg).trans c1⟩
theorem WzR.mono {B B' : Nat} {w : World} {A : Option Addr} {n : Nat} {l : List Wz} (h : WzR B w A n l) (hb : B ≤ B') : WzR B' w A n l := by
  refine ⟨h.1, fun j hj => ?_⟩
  obtain ⟨g, o, hA, hg, c0, c1⟩ := h.2 j hj
  exact ⟨g, o, hA, by omega, c0, c1⟩
/-- the words that a version was split into -/
theorem WdR.z {B : Nat} {w : World} {A : Option Addr} {n : Nat} {l : List Wd} (h : WdR B w A n l) : WzR B w A n (l.map Wz.of) := by
  refine ⟨by rw [List.length_map]; exact h.1, fun j hj => ?_⟩
  rw [List.length_map] at hj
  obtain ⟨g, hA, hg, c0, c1⟩ := h.2 j hj
  refine ⟨g, 0, hA, hg, ?_, ?_⟩
  · rw [Nat.zero_add, List.getElem_map]; exact c0
  · rw [Nat.zero_add, List.getElem_map]; exact c1

set_option maxRecDepth 100000 in
set_option maxHeartbeats 1000000 in
theorem wordAt_c (A : Option Addr) (n c i : Nat) (l : List Wz) (w : World) (B : Nat) (hB : B ≤ w.heap.size) (h : WzR B w A n l) (hn : n ≤ 1000000000) (hi : i ≤ 1000000000) (r : Wz) (hr : (l.drop i).headD nZ = r) :
    Calls Tryd.prog 23 #[.slice A n c, .int .i64 i] w fun e w' => e = .returned (wzV r) ∧ Bd w w' := by
  have hl := h.1
  by_cases hlt : i < n
  · obtain ⟨g, o, rfl, hg, c0, c1⟩ := h.2 i (by omega)
    have e : l[i]'(by omega) = r := by
      rw [← hr, List.drop_eq_getElem_cons (by omega)]; rfl
    rw [e] at c0 c1
    have hb : Below w.heap.size w (w.alloc (.cells #[.int .i64 0, .string ⟨#[]⟩] 46)) := (Below.refl _ _).alloc (Nat.le_refl _) _
    have d0 : (w.alloc (.cells #[.int .i64 0, .string ⟨#[]⟩] 46)).cell? ⟨g, o + i * 2, none⟩ = some (.int .i64 r.k) := (hb.cell (p := ⟨g, o + i * 2, none⟩) (by show g < _; omega)).trans c0
    have d1 : (w.alloc (.cells #[.int .i64 0, .string ⟨#[]⟩] 46)).cell? ⟨g, o + i * 2 + 1, none⟩ = some (.string (tx r.t)) := (hb.cell (p := ⟨g, o + i * 2 + 1, none⟩) (by show g < _; omega)).trans c1
    clear h hr e hl hb c0 c1
    go_enter Tryd.func23, Tryd.ntmps23
    go_wp2_with fail
    refine bodyPost_ret (v := wzV r) ?_ rfl ⟨rfl, (Bd.refl w).alloc _⟩
    simp [results, Tryd.results23, go_sem]
  · have e : r = nZ := by
      rw [← hr, List.drop_of_length_le (by omega)]; rfl
    subst e
    clear h hr hl
    go_enter Tryd.func23, Tryd.ntmps23
    go_wp2_with fail
    refine bodyPost_ret (v := wzV nZ) ?_ rfl ⟨rfl, (Bd.refl w).alloc _⟩
    simp [results, Tryd.results23, go_sem, nZ, tx]

set_option maxRecDepth 100000 in
set_option maxHeartbeats 1000000 in
theorem compareDigits_c (a b : ByteArray) (w : World) (ha : a.size ≤ maxLen) (hb : b.size ≤ maxLen) (r : Int) (hr : thenI (Lib.compareInt a.size b.size) (Lib.compareBytes (bs a) (bs b)) = r) :
    Calls Tryd.prog 43 #[.string a, .string b] w fun e w' => e = .returned (.int .i64 r) ∧ Bd w w' := by
  obtain ⟨x, hx⟩ : ∃ x, Lib.compareInt a.size b.size = x := ⟨_, rfl⟩
  obtain ⟨y, hy⟩ : ∃ y, Lib.compareBytes (bs a) (bs b) = y := ⟨_, rfl⟩
  rw [hx, hy] at hr
  have HX := Lib.hid hx
  have HY := Lib.hid hy
  have HR := Lib.hid hr
  clear hx hy hr
  go_enter Tryd.func43, Tryd.ntmps43
  go_wp2_with (first
    | (go_at_call 42; refine (cmpInt_c _ _ _ x HX.out).mono ?_; rintro e w' ⟨rfl, rfl⟩)
    | (go_at_call 32; refine (cmpStr_c _ _ _ y HY.out).mono ?_; rintro e w' ⟨rfl, rfl⟩)
    | (go_at_call 31; refine (cmpOr_c w.heap.size x y _ ((Blk.new w 3 #[.int .i64 x, .int .i64 y]).cell 0) ((Blk.new w 3 #[.int .i64 x, .int .i64 y]).cell 1) r HR.out).mono ?_; rintro e w' ⟨rfl, rfl⟩))
  go_ret
  exact ⟨rfl, (Bd.refl w).alloc _⟩

/-- two words' boxes -/
theorem box_both (w : World) (t : TypeId) (a b : Wz) : ((w.alloc (.cells #[.int .i64 a.k, .string (tx a.t)] t)).alloc (.cells #[.int .i64 b.k, .string (tx b.t)] t)).cell? ⟨w.heap.size, 0, none⟩ = some (.int .i64 a.k) := ((Blk.new w t #[.int .i64 a.k, .string (tx a.t)]).alloc _).cell 0

set_option maxRecDepth 100000 in
set_option maxHeartbeats 2000000 in
theorem compareWord_c (a b : Wz) (w : World) (ha : a.t.length ≤ maxLen) (hb : b.t.length ≤ maxLen) (r : Int) (hr : cmpZ a b = r) :
    Calls Tryd.prog 22 #[wzV a, wzV b] w fun e w' => e = .returned (.int .i64 r) ∧ Bd w w' := by
  have HB2 : Hid (Bd w ((w.alloc (.cells #[.int .i64 a.k, .string (tx a.t)] 46)).alloc (.cells #[.int .i64 b.k, .string (tx b.t)] 46))) := Lib.hid (((Bd.refl w).alloc _).alloc _)
  have sa : (tx a.t).size ≤ maxLen := by rw [tx_size]; assumption
  have sb : (tx b.t).size ≤ maxLen := by rw [tx_size]; assumption
  obtain ⟨x, hx⟩ : ∃ x, Lib.compareInt a.k b.k = x := ⟨_, rfl⟩
  have HX := Lib.hid hx
  by_cases hx0 : x = 0
  · subst hx0
    have hk := ci_zero _ _ hx
    by_cases h8 : a.k = 8
    · have HC : Hid (Lib.compareBytes (bs (tx a.t)) (bs (tx b.t)) = r) := Lib.hid (by rw [← hr, keyT_8 a b hk h8]; rfl)
      have hb8 : b.k = 8 := by omega
      obtain ⟨ak, at'⟩ := a
      obtain ⟨bk, bt⟩ := b
      simp only at *
      subst h8 hb8
      clear hr hx hk ha hb sa sb
      go_enter Tryd.func22, Tryd.ntmps22
      go_wp2_with (first
        | (go_at_call 42; refine (cmpInt_c _ _ _ 0 HX.out).mono ?_; rintro e w' ⟨rfl, rfl⟩)
        | (go_at_call 32; refine (cmpStr_c _ _ _ r HC.out).mono ?_; rintro e w' ⟨rfl, rfl⟩))
      go_ret
      exact ⟨rfl, HB2.out⟩
    · by_cases h9 : a.k = 9 ∨ a.k = 10
      · have HC : Hid (thenI (Lib.compareInt (tx a.t).size (tx b.t).size) (Lib.compareBytes (bs (tx a.t)) (bs (tx b.t))) = r) := Lib.hid (by rw [← hr, keyT_9 a b hk h9, tx_size, tx_size]; rfl)
        have hb9 : b.k = 9 ∨ b.k = 10 := by omega
        have HBX : ∀ w2, Hid (Bd ((w.alloc (.cells #[.int .i64 a.k, .string (tx a.t)] 46)).alloc (.cells #[.int .i64 b.k, .string (tx b.t)] 46)) w2 → Bd w w2) := fun w2 => Lib.hid (HB2.out.trans)
        obtain ⟨ak, at'⟩ := a
        obtain ⟨bk, bt⟩ := b
        simp only at *
        subst hk
        rcases h9 with rfl | rfl
        all_goals
          clear hr hx ha hb hb9 h8
          go_enter Tryd.func22, Tryd.ntmps22
          go_wp2_with (first
            | (go_at_call 42; refine (cmpInt_c _ _ _ 0 HX.out).mono ?_; rintro e w' ⟨rfl, rfl⟩)
            | (go_at_call 43; refine (compareDigits_c _ _ _ sa sb r HC.out).mono ?_; rintro e w2 ⟨rfl, hb2⟩))
          go_ret
          exact ⟨rfl, (HBX _).out hb2⟩
      · obtain rfl : 0 = r := by rw [← hr, keyT_no a b hk h8 h9]
        obtain ⟨ak, at'⟩ := a
        obtain ⟨bk, bt⟩ := b
        simp only at *
        subst hk
        have e8 : (ak == 8) = false := by rw [beq_eq_false_iff_ne]; exact h8
        have e9 : (ak == 9) = false := by rw [beq_eq_false_iff_ne]; omega
        have e10 : (ak == 10) = false := by rw [beq_eq_false_iff_ne]; omega
        clear hr hx ha hb h8 h9 sa sb
        go_enter Tryd.func22, Tryd.ntmps22
        go_wp2_with (go_at_call 42; refine (cmpInt_c _ _ _ 0 HX.out).mono ?_; rintro e w' ⟨rfl, rfl⟩)
        go_ret
        exact ⟨rfl, HB2.out⟩
  · obtain rfl : x = r := by rw [← hr]; exact (cmpZ_kind a b x hx hx0).symm
    have e0 : (x != 0) = true := by rw [bne_iff_ne]; exact hx0
    clear hr hx ha hb sa sb
    go_enter Tryd.func22, Tryd.ntmps22
    go_wp2_with (go_at_call 42; refine (cmpInt_c _ _ _ x HX.out).mono ?_; rintro e w' ⟨rfl, rfl⟩)
    go_ret
    exact ⟨rfl, HB2.out⟩
end Go.Proofs.YtjmjklmndokdiaaDoor

namespace Nwl
open Go
theorem wordsC_end (a b : List Wz) (i : Nat) (h1 : a.length ≤ i) (h2 : b.length ≤ i) : wordsC (a.drop i) (b.drop i) = 0 := by
  rw [List.drop_of_length_le h1, List.drop_of_length_le h2]; rfl
theorem wordsC_go (a b : List Wz) (i : Nat) : wordsC (a.drop i) (b.drop i) = thenI (cmpZ ((a.drop i).headD nZ) ((b.drop i).headD nZ)) (wordsC (a.drop (i + 1)) (b.drop (i + 1))) := by
  rw [wordsC_step, List.tail_drop, List.tail_drop]
def ShortW (l : List Wz) : Prop := ∀ x ∈ l, x.t.length ≤ maxLen
theorem ShortW.head {l : List Wz} (h : ShortW l) (i : Nat) : ((l.drop i).headD nZ).t.length ≤ maxLen := by
  rcases Nat.lt_or_ge i l.length with hi | hi
  · rw [List.drop_eq_getElem_cons hi]
    exact h _ (List.getElem_mem hi)
  · rw [List.drop_of_length_le hi]
    show 0 ≤ maxLen
    omega
end Nwl
namespace Go.Proofs.YtjmjklmndokdiaaDoor
open Nwl
open Go.RowKit Go.Maps
set_option linter.unusedVariables false

set_option maxRecDepth 100000 in
set_option maxHeartbeats 2000000 in
theorem Words_c (A1 A2 : Option Addr) (n1 n2 c1 c2 : Nat) (l1 l2 : List Wz) (w : World) (B : Nat) (hB : B ≤ w.heap.size) (h1 : WzR B w A1 n1 l1) (h2 : WzR B w A2 n2 l2) (hm1 : n1 ≤ 1000000) (hm2 : n2 ≤ 1000000) (s1 : ShortW l1) (s2 : ShortW l2) (F : Int) (hF : wordsC l1 l2 = F) :
    Calls Tryd.prog 12 #[.slice A1 n1 c1, .slice A2 n2 c2] w fun e w' => e = .returned (.int .i64 F) ∧ Bd w w' := by
  have hF0 : wordsC (l1.drop 0) (l2.drop 0) = F := by rw [List.drop_zero, List.drop_zero]; exact hF
  have HF := Lib.hid hF0
  have HL : Hid (n1 = l1.length ∧ n2 = l2.length) := Lib.hid ⟨h1.1, h2.1⟩
  have H1 := Lib.hid h1
  have H2 := Lib.hid h2
  have S1 := Lib.hid s1
  have S2 := Lib.hid s2
  clear hF hF0 h1 h2 s1 s2
  go_enter Tryd.func12, Tryd.ntmps12
  go_wp2_with fail
  refine wp_scope_again 0 (fun a' w' => ∃ (i : Nat) (u6 u7 u8 u9 u10 u11 u12 u13 u14 u15 u16 u17 u18 u19 u20 u21 u22 u23 u24 u25 u26 u27 u28 : Value), a' = { tmps := #[.slice A1 n1 c1, .slice A2 n2 c2, undef, undef, .int .i64 0, .int .i64 i, u6, u7, u8, u9, u10, u11, u12, u13, u14, u15, u16, u17, u18, u19, u20, u21, u22, u23, u24, u25, u26, u27, u28], defers := [] } ∧ i ≤ 1000000 ∧ Hid (i ≤ n1 ∨ i ≤ n2) ∧ Hid (wordsC (l1.drop i) (l2.drop i) = F) ∧ Hid (Bd w w')) (fun a' _ => n1 + n2 - (intOf (a'.tmps.getD 5 undef)).toNat) rfl ?_ ?_
  · rintro a' w' ⟨i, u6, u7, u8, u9, u10, u11, u12, u13, u14, u15, u16, u17, u18, u19, u20, u21, u22, u23, u24, u25, u26, u27, u28, rfl, hi, hin, hgo, hbd⟩
    by_cases hend : n1 ≤ i ∧ n2 ≤ i
    · have e1 : n1 ≤ i := hend.1
      have e2 : n2 ≤ i := hend.2
      have hz : Hid (0 = F) := Lib.hid (by rw [← hgo.out, wordsC_end _ _ _ (by rw [← HL.out.1]; exact e1) (by rw [← HL.out.2]; exact e2)])
      clear hend hgo hin
      go_wp2_with fail
      simp only [Exit.jump]
      go_ret
      obtain rfl := hz.out
      exact ⟨rfl, hbd.out⟩
    · have hlt : i + 1 ≤ n1 ∨ i + 1 ≤ n2 := by omega
      obtain ⟨x, hx⟩ : ∃ x, (l1.drop i).headD nZ = x := ⟨_, rfl⟩
      obtain ⟨y, hy⟩ : ∃ y, (l2.drop i).headD nZ = y := ⟨_, rfl⟩
      have hg := hgo.out
      rw [wordsC_go, hx, hy] at hg
      have lx : Hid (x.t.length ≤ maxLen) := Lib.hid (by rw [← hx]; exact S1.out.head i)
      have ly : Hid (y.t.length ≤ maxLen) := Lib.hid (by rw [← hy]; exact S2.out.head i)
      have HX := Lib.hid hx
      have HY := Lib.hid hy
      obtain ⟨q, hq⟩ : ∃ q, cmpZ x y = q := ⟨_, rfl⟩
      rw [hq] at hg
      have HQ := Lib.hid hq
      have HG := Lib.hid hg
      have HLT := Lib.hid hlt
      have hBw : Hid (B ≤ w'.heap.size) := Lib.hid (Nat.le_trans hB hbd.out.1.size)
      have R1 := Lib.hid (H1.out.below (hbd.out.1.mono hB))
      have R2 := Lib.hid (H2.out.below (hbd.out.1.mono hB))
      have hm1' : n1 ≤ 1000000000 := by omega
      have hm2' : n2 ≤ 1000000000 := by omega
      have hi' : i ≤ 1000000000 := by omega
      clear hx hy hq hg hgo hlt
      by_cases hq0 : q = 0
      · subst hq0
        by_cases p1 : n1 ≤ i
        · have p2 : ¬ n2 ≤ i := fun h => hend ⟨p1, h⟩
          clear hend
          have hg2 : Hid (wordsC (l1.drop (i + 1)) (l2.drop (i + 1)) = F) := Lib.hid HG.out
          go_wp2_with fail
          refine (wordAt_c A1 n1 c1 i l1 _ B hBw.out R1.out hm1' hi' x HX.out).mono ?_
          rintro e w1 ⟨rfl, hb1⟩
          have Z2 : Hid (B ≤ w1.heap.size ∧ WzR B w1 A2 n2 l2) := Lib.hid ⟨Nat.le_trans hBw.out hb1.1.size, R2.out.below (hb1.1.mono hBw.out)⟩
          have K1 := Lib.hid hb1
          clear hb1
          go_wp2_with fail
          refine (wordAt_c A2 n2 c2 i l2 _ B Z2.out.1 Z2.out.2 hm2' hi' y HY.out).mono ?_
          rintro e w2 ⟨rfl, hb2⟩
          have K2 := Lib.hid (K1.out.trans hb2)
          clear hb2
          go_wp2_with fail
          refine (compareWord_c x y _ lx.out ly.out 0 HQ.out).mono ?_
          rintro e w3 ⟨rfl, hb3⟩
          have K3 := Lib.hid (hbd.out.trans (K2.out.trans hb3))
          clear hb3
          go_wp2_with fail
          go_step3
          refine ⟨rfl, ⟨i + 1, _, _, _, _, _, _, _, _, _, _, _, _, _, _, _, _, _, _, _, _, _, _, _, rfl, by have := HLT.out; omega, HLT, hg2, K3⟩, ?_⟩
          have := HLT.out
          simp [intOf]
          omega
        · clear hend
          have hg2 : Hid (wordsC (l1.drop (i + 1)) (l2.drop (i + 1)) = F) := Lib.hid HG.out
          go_wp2_with fail
          refine (wordAt_c A1 n1 c1 i l1 _ B hBw.out R1.out hm1' hi' x HX.out).mono ?_
          rintro e w1 ⟨rfl, hb1⟩
          have Z2 : Hid (B ≤ w1.heap.size ∧ WzR B w1 A2 n2 l2) := Lib.hid ⟨Nat.le_trans hBw.out hb1.1.size, R2.out.below (hb1.1.mono hBw.out)⟩
          have K1 := Lib.hid hb1
          clear hb1
          go_wp2_with fail
          refine (wordAt_c A2 n2 c2 i l2 _ B Z2.out.1 Z2.out.2 hm2' hi' y HY.out).mono ?_
          rintro e w2 ⟨rfl, hb2⟩
          have K2 := Lib.hid (K1.out.trans hb2)
          clear hb2
          go_wp2_with fail
          refine (compareWord_c x y _ lx.out ly.out 0 HQ.out).mono ?_
          rintro e w3 ⟨rfl, hb3⟩
          have K3 := Lib.hid (hbd.out.trans (K2.out.trans hb3))
          clear hb3
          go_wp2_with fail
          go_step3
          refine ⟨rfl, ⟨i + 1, _, _, _, _, _, _, _, _, _, _, _, _, _, _, _, _, _, _, _, _, _, _, _, rfl, by have := HLT.out; omega, HLT, hg2, K3⟩, ?_⟩
          have := HLT.out
          simp [intOf]
          omega
      · have hqf : Hid (q = F) := Lib.hid (by rw [← HG.out]; unfold thenI; rw [if_neg hq0])
        have e0 : (q != 0) = true := by rw [bne_iff_ne]; exact hq0
        by_cases p1 : n1 ≤ i
        · have p2 : ¬ n2 ≤ i := fun h => hend ⟨p1, h⟩
          clear hend
          go_wp2_with fail
          refine (wordAt_c A1 n1 c1 i l1 _ B hBw.out R1.out hm1' hi' x HX.out).mono ?_
          rintro e w1 ⟨rfl, hb1⟩
          have Z2 : Hid (B ≤ w1.heap.size ∧ WzR B w1 A2 n2 l2) := Lib.hid ⟨Nat.le_trans hBw.out hb1.1.size, R2.out.below (hb1.1.mono hBw.out)⟩
          have K1 := Lib.hid hb1
          clear hb1
          go_wp2_with fail
          refine (wordAt_c A2 n2 c2 i l2 _ B Z2.out.1 Z2.out.2 hm2' hi' y HY.out).mono ?_
          rintro e w2 ⟨rfl, hb2⟩
          have K2 := Lib.hid (K1.out.trans hb2)
          clear hb2
          go_wp2_with fail
          refine (compareWord_c x y _ lx.out ly.out q HQ.out).mono ?_
          rintro e w3 ⟨rfl, hb3⟩
          have K3 := Lib.hid (hbd.out.trans (K2.out.trans hb3))
          clear hb3
          go_wp2_with fail
          simp only [Exit.jump]
          go_ret
          obtain rfl := hqf.out
          exact ⟨rfl, K3.out⟩
        · clear hend
          go_wp2_with fail
          refine (wordAt_c A1 n1 c1 i l1 _ B hBw.out R1.out hm1' hi' x HX.out).mono ?_
          rintro e w1 ⟨rfl, hb1⟩
          have Z2 : Hid (B ≤ w1.heap.size ∧ WzR B w1 A2 n2 l2) := Lib.hid ⟨Nat.le_trans hBw.out hb1.1.size, R2.out.below (hb1.1.mono hBw.out)⟩
          have K1 := Lib.hid hb1
          clear hb1
          go_wp2_with fail
          refine (wordAt_c A2 n2 c2 i l2 _ B Z2.out.1 Z2.out.2 hm2' hi' y HY.out).mono ?_
          rintro e w2 ⟨rfl, hb2⟩
          have K2 := Lib.hid (K1.out.trans hb2)
          clear hb2
          go_wp2_with fail
          refine (compareWord_c x y _ lx.out ly.out q HQ.out).mono ?_
          rintro e w3 ⟨rfl, hb3⟩
          have K3 := Lib.hid (hbd.out.trans (K2.out.trans hb3))
          clear hb3
          go_wp2_with fail
          simp only [Exit.jump]
          go_ret
          obtain rfl := hqf.out
          exact ⟨rfl, K3.out⟩
  · intro hpass
    go_wp2_with fail
    go_step3
    rename_i hK
    exact hK _ _ (hpass.out _ _ ⟨0, _, _, _, _, _, _, _, _, _, _, _, _, _, _, _, _, _, _, _, _, _, _, _, rfl, by omega, Lib.hid (Or.inl (Nat.zero_le _)), HF, Lib.hid (Bd.refl w)⟩)
end Go.Proofs.YtjmjklmndokdiaaDoor

namespace Nwl
open Go
theorem partsF_short : ∀ (f : Nat) (d : Bool) (l : List UInt8), ∀ p ∈ partsF f d l, p.s.length ≤ l.length
  | 0, _, _, p, hp => by simp [partsF] at hp
  | f + 1, d, l, p, hp => by
    rw [partsF] at hp
    rcases List.mem_cons.1 hp with rfl | hp
    · show (l.take (partN l)).length ≤ _
      rw [List.length_take]; omega
    · split at hp
      · simp at hp
      · have h1 := partsF_short f _ _ p hp
        have h2 := nextL_le (l.drop (partN l))
        rw [List.length_drop] at h2
        omega
theorem numW_short (s : List UInt8) (d : Bool) : (numW s d).t.length ≤ s.length := by
  have hd : (s.dropWhile (fun c : UInt8 => c.toNat == 48)).length ≤ s.length := (List.dropWhile_sublist _).length_le
  cases he : (s.dropWhile (fun c : UInt8 => c.toNat == 48)).isEmpty with
  | true =>
    have : numW s d = ⟨6, []⟩ := by unfold numW; simp only [he, if_true]
    rw [this]; exact Nat.zero_le _
  | false =>
    cases d with
    | true =>
      have : numW s true = ⟨9, s.dropWhile (fun c : UInt8 => c.toNat == 48)⟩ := by unfold numW; simp [he]
      rw [this]; exact hd
    | false =>
      have : numW s false = ⟨10, s.dropWhile (fun c : UInt8 => c.toNat == 48)⟩ := by unfold numW; simp [he]
      rw [this]; exact hd
theorem wordW_short (s : List UInt8) (d n : Bool) : (wordW s d n).t.length ≤ s.length := by
  unfold wordW
  split
  · exact numW_short s d
  · split
    · exact Nat.le_refl _
    · exact Nat.zero_le _
theorem cleanW_sub : ∀ (ws : List Wd), ∀ x ∈ cleanW ws, x ∈ ws
  | [], x, h => by simp [cleanW] at h
  | w :: ws, x, h => by
    rw [cleanW] at h
    split at h
    · exact List.mem_cons_of_mem _ (cleanW_sub ws x h)
    · rcases List.mem_cons.1 h with rfl | h
      · exact List.mem_cons_self
      · exact List.mem_cons_of_mem _ (cleanW_sub ws x h)
theorem spZ_short (l : List UInt8) (h : l.length ≤ 100000) : ShortW (spZ l) := by
  intro x hx
  obtain ⟨y, hy, rfl⟩ := List.mem_map.1 hx
  have h1 := cleanW_sub _ y hy
  obtain ⟨p, hp, rfl⟩ := List.mem_map.1 h1
  have h2 := partsF_short _ _ _ p hp
  have h3 := wordW_short p.s p.dash p.num
  have h4 : (lowerL l).length = l.length := by unfold lowerL; rw [List.length_map]
  show (wordW p.s p.dash p.num).t.length ≤ maxLen
  unfold maxLen
  omega
theorem cleanW_le : ∀ ws : List Wd, (cleanW ws).length ≤ ws.length
  | [] => Nat.le_refl _
  | w :: ws => by
    have := cleanW_le ws
    rw [cleanW]
    split <;> simp <;> omega
theorem partsF_le : ∀ (f : Nat) (d : Bool) (l : List UInt8), (partsF f d l).length ≤ f
  | 0, _, _ => Nat.le_refl _
  | f + 1, d, l => by
    have := partsF_le f (dashL (l.drop (partN l))) (nextL (l.drop (partN l)))
    rw [partsF, List.length_cons]
    split <;> simp <;> omega
theorem splitW_le (l : List UInt8) : (splitW l).length ≤ l.length + 1 := by
  unfold splitW wordsL partsL partsD
  refine Nat.le_trans (cleanW_le _) ?_
  rw [List.length_map]
  refine Nat.le_trans (partsF_le _ _ _) ?_
  unfold lowerL
  rw [List.length_map]
  exact Nat.le_refl _
end Nwl
namespace Go.Proofs.YtjmjklmndokdiaaDoor
open Nwl
open Go.RowKit Go.Maps
set_option linter.unusedVariables false

set_option maxRecDepth 100000 in
set_option maxHeartbeats 1000000 in
theorem Compare_c (a b : ByteArray) (w : World) (ha : a.size ≤ 1000) (hb : b.size ≤ 1000) (F : Int) (hF : cmpV (bs a) (bs b) = F) :
    Calls Tryd.prog 10 #[.string a, .string b] w fun e w' => e = .returned (.int .i64 F) ∧ Hid (Below w.heap.size w w') := by
  obtain ⟨X, hX⟩ : ∃ X, splitW (bs a) = X := ⟨_, rfl⟩
  obtain ⟨Y, hY⟩ : ∃ Y, splitW (bs b) = Y := ⟨_, rfl⟩
  have HF : Hid (wordsC (X.map Wz.of) (Y.map Wz.of) = F) := Lib.hid (by rw [← hF, ← hX, ← hY]; rfl)
  have SX : Hid (ShortW (X.map Wz.of)) := Lib.hid (by rw [← hX]; exact spZ_short _ (by rw [bs_length]; omega))
  have SY : Hid (ShortW (Y.map Wz.of)) := Lib.hid (by rw [← hY]; exact spZ_short _ (by rw [bs_length]; omega))
  obtain ⟨m, hm⟩ : ∃ m, X.length = m := ⟨_, rfl⟩
  obtain ⟨n, hn⟩ : ∃ n, Y.length = n := ⟨_, rfl⟩
  have lm : m ≤ 1000000 := by have := splitW_le (bs a); rw [hX, hm, bs_length] at this; omega
  have ln : n ≤ 1000000 := by have := splitW_le (bs b); rw [hY, hn, bs_length] at this; omega
  have HX := Lib.hid hX
  have HY := Lib.hid hY
  have HM := Lib.hid hm
  have HN := Lib.hid hn
  have ha' : a.size ≤ 100000 := by omega
  have hb' : b.size ≤ 100000 := by omega
  clear hF hX hY hm hn ha hb
  go_enter Tryd.func10, Tryd.ntmps10
  go_wp2_with fail
  refine (Split_b a _ ha' X HX.out m HM.out).mono ?_
  rintro e w1 ⟨A1, c1, rfl, R1, B1⟩
  go_wp2_with fail
  refine (Split_b b _ hb' Y HY.out n HN.out).mono ?_
  rintro e w2 ⟨A2, c2, rfl, R2, B2⟩
  have R12 := Lib.hid ((R1.out.below B2.out).mono B2.out.size)
  have B12 := Lib.hid (B1.out.trans (B2.out.mono B1.out.size))
  go_wp2_with fail
  refine (Words_c A1 A2 m n c1 c2 _ _ _ w2.heap.size (Nat.le_refl _) R12.out.z R2.out.z lm ln SX.out SY.out F HF.out).mono ?_
  rintro e w3 ⟨rfl, hb3⟩
  have B3 := Lib.hid (B12.out.trans (hb3.1.mono B12.out.size))
  clear hb3
  go_wp2_with fail
  go_ret
  exact ⟨rfl, B3⟩

/-- a version as a value -/
abbrev vsV (t : List UInt8) (A : Option Addr) (n c : Nat) : Value := .agg #[.string (tx t), .slice A n c]
/-- words that were made from block B on stay, whatever is written below -/
theorem WdRow.low {B b : Nat} {w : World} {A : Option Addr} {n c : Nat} {l : List Wd} (h : WdRow B w A n c l) (hb : b < B) (i : Nat) (u : Value) : WdRow B (w.setCell ⟨b, i, none⟩ u) A n c l := by
  obtain ⟨hn, h1, h2⟩ := h
  refine ⟨hn, h1, ?_⟩
  rcases h2 with h0 | ⟨g, cap, cur, hv, hg, hh, hc, hx, hs, ht⟩
  · exact .inl h0
  · exact .inr ⟨g, cap, cur, hv, hg, (Below.heap_setCell w ⟨b, i, none⟩ u g (show g ≠ b by omega)).trans hh, hc, hx, hs, ht⟩
set_option maxRecDepth 100000 in
set_option maxHeartbeats 1000000 in
theorem newVersion_c (a : ByteArray) (w : World) (ha : a.size ≤ 1000) :
    Calls Tryd.prog 18 #[.string a] w fun e w' => ∃ A c, e = .returned (vsV (bs a) A (splitW (bs a)).length c) ∧ Hid (WdRow (w.heap.size + 1) w' A (splitW (bs a)).length c (splitW (bs a))) ∧ Hid (Below w.heap.size w w') := by
  have ha' : a.size ≤ 100000 := by omega
  have HS := Lib.hid (fun W => split_walk a W ha')
  generalize splitW (bs a) = X at *
  generalize X.length = m at *
  clear ha
  go_enter Tryd.func18, Tryd.ntmps18
  go_wp2_with fail
  refine (HS.out _).mono ?_
  rintro e w1 ⟨A1, c1, rfl, hr, hb1⟩
  obtain ⟨k0, k1, f0, f1, hbel⟩ := box_two hb1
  have HB : Hid (∀ u v, Below w.heap.size w ((w1.setCell ⟨w.heap.size, 0, none⟩ u).setCell ⟨w.heap.size, 1, none⟩ v)) := Lib.hid fun u v => (hbel.setCell (Nat.le_refl _) _).setCell (Nat.le_refl _) _
  have RR : Hid (∀ u v, WdRow (w.heap.size + 1) ((w1.setCell ⟨w.heap.size, 0, none⟩ u).setCell ⟨w.heap.size, 1, none⟩ v) A1 m c1 X) := Lib.hid fun u v => by
    have hr' := hr
    rw [show (w.alloc (.cells #[.string ⟨#[]⟩, .slice none 0 0] 40)).heap.size = w.heap.size + 1 by simp] at hr'
    exact (hr'.low (by omega) 0 u).low (by omega) 1 v
  clear hb1 hbel hr
  go_wp2_with fail
  refine bodyPost_ret (v := vsV (bs a) A1 m c1) ?_ rfl ⟨A1, c1, rfl, Lib.hid (RR.out _ _), Lib.hid (HB.out _ _)⟩
  simp [results, Tryd.results18, go_sem, tx_bs, k0, k1]

theorem newVersion_w (a : ByteArray) (w : World) (ha : a.size ≤ 1000) :
    Calls Tryd.prog 18 #[.string a] w fun e w' => ∃ A m c, e = .returned (vsV (bs a) A m c) ∧ Hid (WdRow (w.heap.size + 1) w' A m c (splitW (bs a))) ∧ Hid (Below w.heap.size w w') := by
  refine (newVersion_c a w ha).mono ?_
  rintro e w' ⟨A, c, rfl, h1, h2⟩
  exact ⟨A, _, c, rfl, h1, h2⟩

/-- two versions' boxes -/
def Bx2 (w : World) (b : Nat) (v0 v1 v2 v3 : Value) : Prop := Blk w b 40 #[v0, v1] ∧ Blk w (b + 1) 40 #[v2, v3]
theorem Bx2.rd {w : World} {b : Nat} {v0 v1 v2 v3 : Value} (h : Hid (Bx2 w b v0 v1 v2 v3)) : w.cell? ⟨b, 0, none⟩ = some v0 ∧ w.cell? ⟨b, 1, none⟩ = some v1 ∧ w.cell? ⟨b + 1, 0, none⟩ = some v2 ∧ w.cell? ⟨b + 1, 1, none⟩ = some v3 := ⟨h.out.1.cell 0, h.out.1.cell 1, h.out.2.cell 0, h.out.2.cell 1⟩
theorem Bx2.below {w w' : World} {b : Nat} {v0 v1 v2 v3 : Value} (h : Bx2 w b v0 v1 v2 v3) (hb : Below w.heap.size w w') : Bx2 w' b v0 v1 v2 v3 := ⟨h.1.below hb, h.2.below hb⟩
theorem Bx2.alloc {w : World} {b : Nat} {v0 v1 v2 v3 : Value} (h : Bx2 w b v0 v1 v2 v3) (o : Obj) : Bx2 (w.alloc o) b v0 v1 v2 v3 := ⟨h.1.alloc o, h.2.alloc o⟩
theorem Bx2.new (w : World) (v0 v1 v2 v3 : Value) : Bx2 ((w.alloc (.cells #[v0, v1] 40)).alloc (.cells #[v2, v3] 40)) w.heap.size v0 v1 v2 v3 := by
  refine ⟨(Blk.new w _ _).alloc _, ?_⟩
  have := Blk.new (w.alloc (.cells #[v0, v1] 40)) 40 #[v2, v3]
  rw [show (w.alloc (.cells #[v0, v1] 40)).heap.size = w.heap.size + 1 by simp] at this
  exact this

theorem WzR.drew {B : Nat} {w : World} {A : Option Addr} {n : Nat} {l : List Wz} (h : WzR B w A n l) : WzR B w.drew A n l := h
theorem bd_d {w w1 : World} (h : Bd w.drew w1) : Bd w w1 := (Bd.refl w).drew.trans h
set_option maxRecDepth 100000 in
set_option maxHeartbeats 2000000 in
theorem compareVersion_c (ta tb : List UInt8) (A1 A2 : Option Addr) (n1 n2 c1 c2 : Nat) (l1 l2 : List Wz) (w : World) (B : Nat) (hB : B ≤ w.heap.size) (h1 : WzR B w A1 n1 l1) (h2 : WzR B w A2 n2 l2) (hm1 : n1 ≤ 1000000) (hm2 : n2 ≤ 1000000) (s1 : ShortW l1) (s2 : ShortW l2) (F : Int) (hF : thenI (wordsC l1 l2) (Lib.compareBytes ta tb) = F) :
    Calls Tryd.prog 19 #[vsV ta A1 n1 c1, vsV tb A2 n2 c2] w fun e w' => e = .returned (.int .i64 F) ∧ Bd w w' := by
  obtain ⟨x, hx⟩ : ∃ x, wordsC l1 l2 = x := ⟨_, rfl⟩
  obtain ⟨y, hy⟩ : ∃ y, Lib.compareBytes (bs (tx ta)) (bs (tx tb)) = y := ⟨_, rfl⟩
  have HF : Hid (thenI x y = F) := Lib.hid (by rw [← hF, hx, ← hy]; rfl)
  have HX := Lib.hid hx
  have HY := Lib.hid hy
  clear hF hx hy
  have W0 := Lib.hid (((Bd.refl w).alloc (.cells #[.string (tx ta), .slice A1 n1 c1] 40)).alloc (.cells #[.string (tx tb), .slice A2 n2 c2] 40))
  have X0 := Lib.hid (Bx2.new w (.string (tx ta)) (.slice A1 n1 c1) (.string (tx tb)) (.slice A2 n2 c2))
  have R1 := Lib.hid (h1.below (W0.out.1.mono hB))
  have R2 := Lib.hid (h2.below (W0.out.1.mono hB))
  have BB : Hid (B ≤ ((w.alloc (.cells #[.string (tx ta), .slice A1 n1 c1] 40)).alloc (.cells #[.string (tx tb), .slice A2 n2 c2] 40)).drew.heap.size) := Lib.hid (Nat.le_trans hB W0.out.1.size)
  have S1 := Lib.hid s1
  have S2 := Lib.hid s2
  clear h1 h2 hB s1 s2
  go_enter Tryd.func19, Tryd.ntmps19
  go_wp2_with fail
  go_region_held3 (fun w' => w'.cell? ⟨w.heap.size, 0, none⟩ = some (.string (tx ta)) ∧ w'.cell? ⟨w.heap.size, 1, none⟩ = some (.slice A1 n1 c1) ∧ w'.cell? ⟨w.heap.size + 1, 0, none⟩ = some (.string (tx tb)) ∧ w'.cell? ⟨w.heap.size + 1, 1, none⟩ = some (.slice A2 n2 c2)) (first | (have h := Bx2.rd X0; exact h) | (have h := Bx2.rd X1; exact h) | (have h := Bx2.rd X2; exact h) | fail) (first
    | (go_at_call 32; refine (cmpStr_c _ _ _ y HY.out).mono ?_; rintro e w2 ⟨rfl, rfl⟩)
    | (go_at_call 31; refine (cmpOr_c w1.heap.size x y _ ((Blk.new w1 3 #[.int .i64 x, .int .i64 y]).cell 0) ((Blk.new w1 3 #[.int .i64 x, .int .i64 y]).cell 1) F HF.out).mono ?_; rintro e w3 ⟨rfl, rfl⟩)
    | (go_at_call 12; refine (Words_c A1 A2 n1 n2 c1 c2 l1 l2 _ B BB.out R1.out.drew R2.out.drew hm1 hm2 S1.out S2.out x HX.out).mono ?_; rintro e w1 ⟨rfl, hb1⟩; have hc1 := bd_d hb1; have X1 := Lib.hid (X0.out.below hc1.1); have X2 := Lib.hid (X1.out.alloc (.cells #[.int .i64 x, .int .i64 y] 3)); have W1 := Lib.hid (W0.out.trans hc1); clear hb1 hc1))
  go_wp2_with fail
  go_ret
  exact ⟨rfl, W1.out.alloc _⟩
end Go.Proofs.YtjmjklmndokdiaaDoor

namespace Nwl
open Go
/-- a version in memory: its text, and its words -/
structure Vn where
  t : List UInt8
  A : Option Addr
  n : Nat
  c : Nat
theorem madeCells_get (z : Array Value) (m i : Nat) (h : i < m) : (madeCells z m)[i]? = some (z[i % z.size]!) := by
  unfold madeCells
  simp [h]
end Nwl
namespace Go.Proofs.YtjmjklmndokdiaaDoor
open Nwl
open Go.RowKit Go.Maps
set_option linter.unusedVariables false

/-- texts that may be read, below block B -/
def StrR (B : Nat) (w : World) (A : Option Addr) (n : Nat) (l : List (List UInt8)) : Prop := n = l.length ∧ ∀ j (hj : j < l.length), ∃ g o, A = some ⟨g, o, none⟩ ∧ g < B ∧ w.cell? ⟨g, o + j, none⟩ = some (.string (tx l[j]))
theorem StrR.below {B : Nat} {w w' : World} {A : Option Addr} {n : Nat} {l : List (List UInt8)} (h : StrR B w A n l) (hb : Below B w w') : StrR B w' A n l := by
  refine ⟨h.1, fun j hj => ?_⟩
  obtain ⟨g, o, hA, hg, c0⟩ := h.2 j hj
  exact ⟨g, o, hA, hg, (hb.cell (p := ⟨g, o + j, none⟩) hg).trans c0⟩
theorem StrR.mono {B B' : Nat} {w : World} {A : Option Addr} {n : Nat} {l : List (List UInt8)} (h : StrR B w A n l) (hb : B ≤ B') : StrR B' w A n l := by
  refine ⟨h.1, fun j hj => ?_⟩
  obtain ⟨g, o, hA, hg, c0⟩ := h.2 j hj
  exact ⟨g, o, hA, by omega, c0⟩
theorem StrR.drew {B : Nat} {w : World} {A : Option Addr} {n : Nat} {l : List (List UInt8)} (h : StrR B w A n l) : StrR B w.drew A n l := h
theorem StrR.on {B : Nat} {w w' : World} {A : Option Addr} {n : Nat} {l : List (List UInt8)} (h : StrR B w A n l) (hB : B ≤ w.heap.size) (hb : Below w.heap.size w w') : StrR B w' A n l := h.below (hb.mono hB)
/-- texts that were laid in a block of their own -/
theorem StrR.blk {B g : Nat} {w : World} {l : List (List UInt8)} {cs : Array Value} (h : Blk w g 9 cs) (hB : g < B) (hc : cs.toList = l.map fun x => .string (tx x)) : StrR B w (some ⟨g, 0, none⟩) l.length l := by
  refine ⟨rfl, fun j hj => ⟨g, 0, rfl, hB, ?_⟩⟩
  rw [h.cell, Nat.zero_add, ← Array.getElem?_toList, hc, List.getElem?_map, List.getElem?_eq_getElem hj]
  rfl
theorem wdrow_mono {B B' : Nat} {w : World} {A : Option Addr} {n c : Nat} {l : List Wd} (h : WdRow B w A n c l) (hb : B' ≤ B) : WdRow B' w A n c l := by
  obtain ⟨h0, h1, h2⟩ := h
  refine ⟨h0, h1, ?_⟩
  rcases h2 with h2 | ⟨g, cap, cur, e1, e2, e3⟩
  · exact .inl h2
  · exact .inr ⟨g, cap, cur, e1, Nat.le_trans hb e2, e3⟩
/-- a version whose words were made from block B on -/
def VnOk (B : Nat) (w : World) (v : Vn) : Prop := v.t.length ≤ 1000 ∧ WdRow B w v.A v.n v.c (splitW v.t)
theorem VnOk.below {B : Nat} {w w' : World} {v : Vn} (h : VnOk B w v) (hb : Below w.heap.size w w') : VnOk B w' v := ⟨h.1, h.2.below hb⟩
theorem VnOk.low {B b : Nat} {w : World} {v : Vn} (h : VnOk B w v) (hb : b < B) (i : Nat) (u : Value) : VnOk B (w.setCell ⟨b, i, none⟩ u) v := ⟨h.1, h.2.low hb i u⟩
/-- the row of versions: its first ones are filled in -/
def VerAt (w : World) (g n : Nat) (vs : List Vn) : Prop := ∃ cs : Array Value, Blk w g 40 cs ∧ cs.size = n * 2 ∧ ∀ j (hj : j < vs.length), cs[j * 2]? = some (.string (tx vs[j].t)) ∧ cs[j * 2 + 1]? = some (.slice vs[j].A vs[j].n vs[j].c)
theorem VerAt.below {w w' : World} {g n : Nat} {vs : List Vn} (h : VerAt w g n vs) (hb : Below w.heap.size w w') : VerAt w' g n vs := by
  obtain ⟨cs, h1, h2⟩ := h
  exact ⟨cs, h1.below hb, h2⟩
theorem VerAt.lt {w : World} {g n : Nat} {vs : List Vn} (h : VerAt w g n vs) : g < w.heap.size := by
  obtain ⟨cs, h1, h2⟩ := h
  exact h1.lt
theorem VerAt.room {w : World} {g n : Nat} {vs : List Vn} (h : VerAt w g n vs) (i : Nat) (hi : i < n * 2) : ∃ z, w.cell? ⟨g, i, none⟩ = some z ∧ w.frozen? ⟨g, i, none⟩ = false := by
  obtain ⟨cs, h1, h2, _⟩ := h
  exact ⟨cs[i]'(by omega), by rw [h1.cell, Array.getElem?_eq_getElem (by omega)], h1.frozen i⟩
theorem VerAt.put {w : World} {g n : Nat} {vs : List Vn} (h : VerAt w g n vs) (v : Vn) (i : Nat) (hi : i = vs.length) (hn : i < n) : VerAt ((w.setCell ⟨g, i * 2, none⟩ (.string (tx v.t))).setCell ⟨g, i * 2 + 1, none⟩ (.slice v.A v.n v.c)) g n (vs ++ [v]) := by
  obtain ⟨cs, h1, h2, h3⟩ := h
  refine ⟨_, (h1.set _ _).set _ _, by simp [h2], fun j hj => ?_⟩
  simp only [Array.getElem?_setIfInBounds]
  by_cases hji : j = i
  · subst hji
    have e : (vs ++ [v])[j] = v := by simp [hi]
    rw [e]
    refine ⟨?_, ?_⟩
    · rw [if_neg (by omega), if_pos rfl, if_pos (by omega)]
    · rw [if_pos rfl, if_pos (by simp; omega)]
  · have hlt : j < vs.length := by simp at hj; omega
    have e : (vs ++ [v])[j] = vs[j] := List.getElem_append_left hlt
    rw [e, if_neg (by omega), if_neg (by omega), if_neg (by omega), if_neg (by omega)]
    exact h3 j hlt
theorem info_vn : (Tryd.prog.info? 40).map (fun i => (i.zero, i.size, i.bytes)) = some (some (.agg #[.string ⟨#[]⟩, .slice none 0 0]), 2, 40) := by kernel_rfl
theorem info_st : (Tryd.prog.info? 9).map (fun i => (i.zero, i.size, i.bytes)) = some (some (.string ⟨#[]⟩), 1, 16) := by kernel_rfl

theorem make_vn (w : World) (n : Nat) (hn : n ≤ 1000000) : (Instr.makeSlice 50 (.int .i64 (n : Int)) (.int .i64 (n : Int))).run Tryd.prog w = .ok (.slice (some ⟨w.heap.size, 0, none⟩) n n) (w.alloc (.cells (madeCells #[.string ⟨#[]⟩, .slice none 0 0] (n * 2)) 40)) := by
  obtain ⟨i, h1, h2, h3, h4⟩ := info_parts2 info_vn
  have := run_make w 50 40 i _ Tryd.underlying50 h1 h2 .i64 .i64 n n (by omega) (by omega) (by rw [h4]; omega) (by omega)
  rw [h3] at this
  exact this

theorem make_st (w : World) (n : Nat) (hn : n ≤ 1000000) : (Instr.makeSlice 23 (.int .i64 (n : Int)) (.int .i64 (n : Int))).run Tryd.prog w = .ok (.slice (some ⟨w.heap.size, 0, none⟩) n n) (w.alloc (.cells (madeCells #[.string ⟨#[]⟩] n) 9)) := by
  obtain ⟨i, h1, h2, h3, h4⟩ := info_parts2 info_st
  have := run_make w 23 9 i _ Tryd.underlying23 h1 h2 .i64 .i64 n n (by omega) (by omega) (by rw [h4]; omega) (by omega)
  rw [h3, Nat.mul_one] at this
  exact this
theorem VerAt.made (w : World) (n : Nat) : VerAt (w.alloc (.cells (madeCells #[.string ⟨#[]⟩, .slice none 0 0] (n * 2)) 40)) w.heap.size n [] := ⟨_, Blk.new w _ _, size_madeCells _ _, fun j hj => by simp at hj⟩

set_option maxRecDepth 100000 in
set_option maxHeartbeats 2000000 in
theorem newVersions_c (A : Option Addr) (n c : Nat) (l : List (List UInt8)) (w : World) (h : StrR w.heap.size w A n l) (hn : n ≤ 1000) (hl : ∀ x ∈ l, x.length ≤ 1000) :
    Calls Tryd.prog 27 #[.slice A n c] w fun e w' => e = .returned (.slice (some ⟨w.heap.size, 0, none⟩) n n) ∧ ∃ vs : List Vn, vs.map Vn.t = l ∧ VerAt w' w.heap.size n vs ∧ (∀ v ∈ vs, VnOk (w.heap.size + 1) w' v) ∧ Below w.heap.size w w' := by
  have HMK := Lib.hid (make_vn w n (by omega))
  have hmk := HMK.out
  have H := Lib.hid h
  have HL := Lib.hid hl
  have B0 : Hid (Below w.heap.size w (w.alloc (.cells (madeCells #[.string ⟨#[]⟩, .slice none 0 0] (n * 2)) 40))) := Lib.hid ((Below.refl _ _).alloc (Nat.le_refl _) _)
  have V0 := Lib.hid (VerAt.made w n)
  clear h hl HMK
  go_enter Tryd.func27, Tryd.ntmps27
  go_wp2_with fail
  refine wp_scope_again 0 (fun a' w' => ∃ (i : Nat) (u5 u6 u7 u8 u9 u10 u11 u12 u13 u14 u15 u16 u17 u18 u19 u20 u21 u22 : Value), a' = { tmps := #[.slice A n c, undef, .slice none 0 0, .slice (some ⟨w.heap.size, 0, none⟩) n n, .int .i64 i, u5, u6, u7, u8, u9, u10, u11, u12, u13, u14, u15, u16, u17, u18, u19, u20, u21, u22], defers := [] } ∧ i ≤ n ∧ Hid (∃ vs : List Vn, vs.map Vn.t = l.take i ∧ vs.length = i ∧ VerAt w' w.heap.size n vs ∧ (∀ v ∈ vs, VnOk (w.heap.size + 1) w' v) ∧ Below w.heap.size w w')) (fun a' _ => n - (intOf (a'.tmps.getD 4 undef)).toNat) rfl ?_ ?_
  · rintro a' w' ⟨i, u5, u6, u7, u8, u9, u10, u11, u12, u13, u14, u15, u16, u17, u18, u19, u20, u21, u22, rfl, hi, hh⟩
    by_cases hend : i = n
    · subst hend
      have hfin : Hid (∃ vs : List Vn, vs.map Vn.t = l ∧ VerAt w' w.heap.size i vs ∧ (∀ v ∈ vs, VnOk (w.heap.size + 1) w' v) ∧ Below w.heap.size w w') := Lib.hid (by
        obtain ⟨vs, h1, h2, h3⟩ := hh.out
        exact ⟨vs, by rw [h1, List.take_of_length_le (by have := H.out.1; omega)], h3⟩)
      clear hh
      go_wp2_with fail
      simp only [Exit.jump]
      go_ret
      exact ⟨rfl, hfin.out⟩
    · have hlt : i < n := by omega
      have hil : i < l.length := by have := H.out.1; omega
      obtain ⟨g, o, rfl, hg, hc⟩ := H.out.2 i hil
      obtain ⟨vs, h1, h2, h3, h4, h5⟩ := hh.out
      obtain ⟨x, hx⟩ : ∃ x, l[i] = x := ⟨_, rfl⟩
      rw [hx] at hc
      have hc' : w'.cell? ⟨g, o + i, none⟩ = some (.string (tx x)) := (h5.cell (p := ⟨g, o + i, none⟩) hg).trans hc
      have hxs : (tx x).size ≤ 1000 := by rw [tx_size, ← hx]; exact HL.out _ (List.getElem_mem hil)
      have htk : l.take (i + 1) = l.take i ++ [x] := by rw [← List.take_append_getElem hil, hx]
      have HT := Lib.hid htk
      have HV := Lib.hid (show vs.map Vn.t = l.take i ∧ vs.length = i ∧ VerAt w' w.heap.size n vs ∧ (∀ v ∈ vs, VnOk (w.heap.size + 1) w' v) ∧ Below w.heap.size w w' from ⟨h1, h2, h3, h4, h5⟩)
      have hne : ((i : Int) == (n : Int)) = false := by rw [beq_eq_false_iff_ne]; omega
      clear hh hc hx h1 h2 h3 h4 h5 htk hend hil hg
      go_wp2_with fail
      refine (newVersion_w (tx x) _ hxs).mono ?_
      rintro e w1 ⟨A1, m1, c1, rfl, hr, hb1⟩
      obtain ⟨z0, q0, f0⟩ := (HV.out.2.2.1.below hb1.out).room (i * 2) (by omega)
      obtain ⟨z1, q1, f1⟩ := (HV.out.2.2.1.below hb1.out).room (i * 2 + 1) (by omega)
      have hz : ¬ i * 2 + 1 = i * 2 := by omega
      have HN : Hid (∃ vs : List Vn, vs.map Vn.t = l.take (i + 1) ∧ vs.length = i + 1 ∧ VerAt ((w1.setCell ⟨w.heap.size, i * 2, none⟩ (.string (tx x))).setCell ⟨w.heap.size, i * 2 + 1, none⟩ (.slice A1 m1 c1)) w.heap.size n vs ∧ (∀ v ∈ vs, VnOk (w.heap.size + 1) ((w1.setCell ⟨w.heap.size, i * 2, none⟩ (.string (tx x))).setCell ⟨w.heap.size, i * 2 + 1, none⟩ (.slice A1 m1 c1)) v) ∧ Below w.heap.size w ((w1.setCell ⟨w.heap.size, i * 2, none⟩ (.string (tx x))).setCell ⟨w.heap.size, i * 2 + 1, none⟩ (.slice A1 m1 c1))) := Lib.hid (by
        obtain ⟨h1, h2, h3, h4, h5⟩ := HV.out
        refine ⟨vs ++ [⟨x, A1, m1, c1⟩], by rw [List.map_append, h1, HT.out]; rfl, by simp [h2], (h3.below hb1.out).put ⟨x, A1, m1, c1⟩ i h2.symm hlt, ?_, ((h5.trans (hb1.out.mono h5.size)).setCell (Nat.le_refl _) _).setCell (Nat.le_refl _) _⟩
        intro v hv
        refine VnOk.low (VnOk.low ?_ (Nat.lt_succ_self _) _ _) (Nat.lt_succ_self _) _ _
        rcases List.mem_append.1 hv with hv | hv
        · exact (h4 v hv).below hb1.out
        · obtain rfl := List.mem_singleton.1 hv
          exact ⟨by rw [← tx_size]; exact hxs, wdrow_mono hr.out (by have := h3.lt; omega)⟩)
      clear HV HT hr hb1
      go_wp2_with fail
      go_step3
      refine ⟨rfl, ⟨i + 1, _, _, _, _, _, _, _, _, _, _, _, _, _, _, _, _, _, _, rfl, by omega, HN⟩, ?_⟩
      simp [intOf]
      omega
  · intro hpass
    go_wp2_with fail
    go_step3
    rename_i hK
    exact hK _ _ (hpass.out _ _ ⟨0, _, _, _, _, _, _, _, _, _, _, _, _, _, _, _, _, _, _, rfl, by omega, Lib.hid ⟨[], by simp, rfl, V0.out, fun v hv => by simp at hv, B0.out⟩⟩)

set_option maxRecDepth 100000 in
set_option maxHeartbeats 2000000 in
theorem texts_c (g n c : Nat) (ts : List (List UInt8)) (w : World) (hg : g < w.heap.size) (hts : n = ts.length) (h : ∀ j (hj : j < ts.length), w.cell? ⟨g, j * 2, none⟩ = some (.string (tx ts[j]))) (hn : n ≤ 1000) :
    Calls Tryd.prog 29 #[.slice (some ⟨g, 0, none⟩) n c] w fun e w' => e = .returned (.slice (some ⟨w.heap.size, 0, none⟩) n n) ∧ StrR w'.heap.size w' (some ⟨w.heap.size, 0, none⟩) n ts ∧ Below w.heap.size w w' := by
  have HMK := Lib.hid (make_st w n (by omega))
  have hmk := HMK.out
  have H := Lib.hid h
  have HL := Lib.hid hts
  have B0 : Hid (Below w.heap.size w (w.alloc (.cells (madeCells #[.string ⟨#[]⟩] n) 9))) := Lib.hid ((Below.refl _ _).alloc (Nat.le_refl _) _)
  have V0 : Hid (Blk (w.alloc (.cells (madeCells #[.string ⟨#[]⟩] n) 9)) w.heap.size 9 (madeCells #[.string ⟨#[]⟩] n)) := Lib.hid (Blk.new w _ _)
  clear h hts HMK
  go_enter Tryd.func29, Tryd.ntmps29
  go_wp2_with fail
  refine wp_scope_again 0 (fun a' w' => ∃ (i : Nat) (u5 u6 u7 u8 u9 u10 u11 u12 u13 u14 u15 u16 u17 u18 u19 u20 u21 u22 : Value), a' = { tmps := #[.slice (some ⟨g, 0, none⟩) n c, undef, .slice none 0 0, .slice (some ⟨w.heap.size, 0, none⟩) n n, .int .i64 i, u5, u6, u7, u8, u9, u10, u11, u12, u13, u14, u15, u16, u17, u18, u19, u20, u21, u22], defers := [] } ∧ i ≤ n ∧ Hid (∃ cs : Array Value, Blk w' w.heap.size 9 cs ∧ cs.size = n ∧ (∀ j (hj : j < ts.length), j < i → cs[j]? = some (.string (tx ts[j]))) ∧ Below w.heap.size w w')) (fun a' _ => n - (intOf (a'.tmps.getD 4 undef)).toNat) rfl ?_ ?_
  · rintro a' w' ⟨i, u5, u6, u7, u8, u9, u10, u11, u12, u13, u14, u15, u16, u17, u18, u19, u20, u21, u22, rfl, hi, hh⟩
    by_cases hend : i = n
    · subst hend
      have hfin : Hid (StrR w'.heap.size w' (some ⟨w.heap.size, 0, none⟩) i ts ∧ Below w.heap.size w w') := Lib.hid (by
        obtain ⟨cs, h1, h2, h3, h4⟩ := hh.out
        refine ⟨⟨HL.out, fun j hj => ⟨w.heap.size, 0, rfl, h1.lt, ?_⟩⟩, h4⟩
        rw [h1.cell, Nat.zero_add]
        exact h3 j hj (by have := HL.out; omega))
      clear hh
      go_wp2_with fail
      simp only [Exit.jump]
      go_ret
      exact ⟨rfl, hfin.out⟩
    · have hlt : i < n := by omega
      have hil : i < ts.length := by have := HL.out; omega
      have hc := H.out i hil
      obtain ⟨cs, h1, h2, h3, h4⟩ := hh.out
      obtain ⟨x, hx⟩ : ∃ x, ts[i] = x := ⟨_, rfl⟩
      rw [hx] at hc
      have hc' : w'.cell? ⟨g, i * 2, none⟩ = some (.string (tx x)) := (h4.cell (p := ⟨g, i * 2, none⟩) hg).trans hc
      have q0 : w'.cell? ⟨w.heap.size, i, none⟩ = some (cs[i]'(by omega)) := by rw [h1.cell, Array.getElem?_eq_getElem (by omega)]
      have f0 := h1.frozen i
      have HN : Hid (∃ cs : Array Value, Blk (w'.setCell ⟨w.heap.size, i, none⟩ (.string (tx x))) w.heap.size 9 cs ∧ cs.size = n ∧ (∀ j (hj : j < ts.length), j < i + 1 → cs[j]? = some (.string (tx ts[j]))) ∧ Below w.heap.size w (w'.setCell ⟨w.heap.size, i, none⟩ (.string (tx x)))) := Lib.hid (by
        refine ⟨_, h1.set i _, by simp [h2], fun j hj hji => ?_, h4.setCell (Nat.le_refl _) _⟩
        rw [Array.getElem?_setIfInBounds]
        by_cases e : i = j
        · subst e
          rw [if_pos rfl, if_pos (by omega), hx]
        · rw [if_neg e]
          exact h3 j hj (by omega))
      generalize cs[i]'(by omega) = z0 at q0
      have hne : ((i : Int) == (n : Int)) = false := by rw [beq_eq_false_iff_ne]; omega
      clear hh hc hx h1 h2 h3 h4 hend hil
      go_wp2_with fail
      go_step3
      refine ⟨rfl, ⟨i + 1, _, _, _, _, _, _, _, _, _, _, _, _, _, _, _, _, _, _, rfl, by omega, HN⟩, ?_⟩
      simp [intOf]
      omega
  · intro hpass
    go_wp2_with fail
    go_step3
    rename_i hK
    exact hK _ _ (hpass.out _ _ ⟨0, _, _, _, _, _, _, _, _, _, _, _, _, _, _, _, _, _, _, rfl, by omega, Lib.hid ⟨_, V0.out, size_madeCells _ _, fun j _ hj => by omega, B0.out⟩⟩)
end Go.Proofs.YtjmjklmndokdiaaDoor
