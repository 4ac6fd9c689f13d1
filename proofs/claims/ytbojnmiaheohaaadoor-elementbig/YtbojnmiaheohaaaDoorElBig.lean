/-
  ElementBig (layer 3).
-/
import Derived.Test.YtbojnmiaheohaaaDoorElAwake
import Derived.Maps.AppendAt
namespace Nwl
open Go Go.RowKit
/-- 'int(uint(a) % n)' is from 0 to n -/
theorem idx3 (a n : Int) (h0 : 0 < n) (h1 : n ≤ 2147483648) : 0 ≤ Go.RowKit.wrap64 ((IntKind.u64.wrap a).tmod n) ∧ Go.RowKit.wrap64 ((IntKind.u64.wrap a).tmod n) < n := by
  have hu : 0 ≤ IntKind.u64.wrap a := by rw [IntKind.wrap_u64]; omega
  have h2 : (IntKind.u64.wrap a).tmod n = (IntKind.u64.wrap a) % n := Int.tmod_eq_emod_of_nonneg hu
  have h3 := Int.emod_nonneg (IntKind.u64.wrap a) (show n ≠ 0 by omega)
  have h4 := Int.emod_lt_of_pos (IntKind.u64.wrap a) h0
  rw [h2]
  have h5 : Go.RowKit.wrap64 (IntKind.u64.wrap a % n) = IntKind.u64.wrap a % n := by
    generalize IntKind.u64.wrap a % n = x at *
    unfold Go.RowKit.wrap64
    omega
  rw [h5]
  exact ⟨h3, h4⟩
def tkOpen (n : List UInt8) (e : Bool) : Tki := ⟨1, n, [], [], e⟩
def tkClose (n : List UInt8) : Tki := ⟨2, n, [], [], false⟩
/-- a root, and k empty ones so far -/
def bigT (k : Nat) : List Tki := tkOpen [114] false :: List.replicate k (tkOpen [97] true)
theorem bigT_snoc (k : Nat) : bigT (k + 1) = bigT k ++ [tkOpen [97] true] := by
  unfold bigT; rw [List.replicate_succ', List.cons_append]
theorem bigT_len (k : Nat) : (bigT k).length = k + 1 := by simp [bigT]
def bigG (k : Nat) : Gst := ⟨⟨-1, [114], [], []⟩ :: List.replicate k ⟨0, [97], [], []⟩, [0], []⟩
theorem bigG_mem (k : Nat) : (bigG k).mem.length = k + 1 := by simp [bigG, Gst.mem]
theorem big_step (k : Nat) (h : k + 1 < 2000) : growG (bigG k) (tkOpen [97] true) = .ok (bigG (k + 1)) := by
  have hm := bigG_mem k
  rw [growG_open rfl, openG_empty (by simp [tkOpen]) (by simp [bigG]) (by simp [bigG]) (by omega) rfl]
  congr 1
  simp only [bigG, Gst.settled, if_true, tkOpen]
  rw [List.replicate_succ']
  rfl
theorem big_full (k : Nat) (h : 2000 ≤ k + 1) : growG (bigG k) (tkOpen [97] true) = .error 3 := by
  have hm := bigG_mem k
  rw [growG_open rfl, openG_big (by simp [tkOpen]) (by simp [bigG]) (by simp [bigG]) (by omega)]
theorem big_close (k : Nat) : growG (bigG k) (tkClose [114]) = .ok ⟨(bigG k).pre, [], []⟩ := by
  rw [growG_close rfl]
  exact closeG_yes (o := []) (q := 0) rfl rfl
theorem big_run : ∀ (m k : Nat), k + 1 ≤ 2000 → treeG (bigG k) (List.replicate m (tkOpen [97] true) ++ [tkClose [114]]) = if k + m + 1 ≤ 2000 then .ok (bigG (k + m)).pre else .error 3
  | 0, k, h => by
    rw [List.replicate_zero, List.nil_append, treeG, big_close, if_pos (by omega)]
    simp only [treeG]
    rw [endG_yes (by simp [Gst.mem, bigG])]
    rfl
  | m + 1, k, h => by
    rw [List.replicate_succ, List.cons_append, treeG]
    by_cases hk : k + 1 < 2000
    · rw [big_step k hk]
      simp only []
      rw [big_run m (k + 1) (by omega), show k + 1 + m = k + (m + 1) by omega]
    · rw [big_full k (by omega), if_neg (by omega)]
theorem big_tree (k : Nat) : treeL (bigT k ++ [tkClose [114]]) = if k + 1 ≤ 2000 then .ok (bigG k).pre else .error 3 := by
  unfold treeL bigT
  rw [List.cons_append, treeG]
  have : growG Gst.none (tkOpen [114] false) = .ok (bigG 0) := by rfl
  rw [this]
  simp only []
  rw [big_run k 0 (by omega), Nat.zero_add]
theorem big_texts (k : Nat) : textsL (bigT k ++ [tkClose [114]]) = 0 := by
  unfold textsL bigT
  simp [tkOpen, tkClose]
theorem big_attrs (k : Nat) : ∀ t ∈ bigT k ++ [tkClose [114]], t.attrs.length ≤ 4000000000000 := by
  intro t ht
  have : t.attrs = [] := by
    simp only [bigT, List.cons_append, List.mem_cons, List.mem_append, List.mem_replicate, List.not_mem_nil, or_false] at ht
    rcases ht with rfl | ⟨_, rfl⟩ | rfl <;> rfl
  rw [this]; simp
theorem big_plain (k : Nat) : ∀ t ∈ bigT k ++ [tkClose [114]], t.attrs = [] := by
  intro t ht
  simp only [bigT, List.cons_append, List.mem_cons, List.mem_append, List.mem_replicate, List.not_mem_nil, or_false] at ht
  rcases ht with rfl | ⟨_, rfl⟩ | rfl <;> rfl
theorem big_errOk {k : Nat} (h : k + 1 ≤ 2000) : errOf (treeL (bigT k ++ [tkClose [114]])) = 0 ∧ (nodesOf (treeL (bigT k ++ [tkClose [114]]))).length = k + 1 := by
  rw [big_tree, if_pos h]
  exact ⟨rfl, by simp [nodesOf, bigG]⟩
theorem big_errNo {k : Nat} (h : ¬ k + 1 ≤ 2000) : errOf (treeL (bigT k ++ [tkClose [114]])) = 3 ∧ (nodesOf (treeL (bigT k ++ [tkClose [114]]))).length = 0 := by
  rw [big_tree, if_neg h]
  exact ⟨rfl, rfl⟩
end Nwl
namespace Go.Proofs.YtbojnmiaheohaaaDoor
open Nwl
open Go.RowKit Go.Maps
set_option linter.unusedVariables false

/-- a plain token's cells: it has no attributes -/
def tkC (t : Tki) : List Value := [.int .i64 t.kind, .string (tx t.name), .string (tx t.text), .slice none 0 0, .bool t.empty]
def tksC (ts : List Tki) : List Value := ts.flatMap tkC
theorem tksC_snoc (ts : List Tki) (t : Tki) : tksC (ts ++ [t]) = tksC ts ++ tkC t := by simp [tksC, List.flatMap_append]
theorem tksC_cells {B : Nat} {w : World} : ∀ (ts : List Tki), (∀ t ∈ ts, t.attrs = []) → TkiCells B w ts (tksC ts)
  | [], _ => rfl
  | t :: ts, h => ⟨.slice none 0 0, tksC ts, rfl, by rw [h t (by simp)]; exact ⟨rfl, .inl ⟨rfl, rfl⟩⟩, tksC_cells ts fun u hu => h u (by simp [hu])⟩

set_option maxRecDepth 100000 in
set_option maxHeartbeats 1000000 in
theorem ElementBig_walk (a : Int) (w : World) (ha : (Lit.int .i64 a).wf = true) (hg : Glob w) :
    Calls Tryd.prog 6 #[.int .i64 a] w fun e w' => e = .returned (.bool true) ∧ Below w.heap.size w w' := by
  have HG := Lib.hid hg
  obtain ⟨x0, x1⟩ := idx3 a 6 (by decide) (by decide)
  obtain ⟨i0, hi, hz0, hz1, hz2⟩ := info_parts info_tok
  obtain ⟨x, hx⟩ : ∃ x : Nat, Go.RowKit.wrap64 ((IntKind.u64.wrap a).tmod 6) = (x : Int) := ⟨(Go.RowKit.wrap64 ((IntKind.u64.wrap a).tmod 6)).toNat, by omega⟩
  have hx6 : x < 6 := by omega
  clear hg ha x0 x1
  go_enter Tryd.func6, Tryd.ntmps6
  go_wp2_with fail
  simp only [hx]
  clear hx
  go_loopw [3, 4] (fun v j wr => ∃ k : Nat, k + 1 ≤ 1997 + x ∧ j = .int .i64 ((k + 1 : Nat) : Int) ∧ Hid (wr.ownsRow w.heap.size 39 5 v (k + 1) (tksC (bigT k)) ∧ Below w.heap.size w wr)) (fun _ j _ => 1997 + x - (intOf j).toNat)
  case atStart => exact ⟨0, by omega, rfl, World.ownsRow_lit w #[.int .i64 1, .string ⟨#[114]⟩, .string ⟨#[]⟩, .slice none 0 0, .bool false] 1 (Nat.le_refl _) (by decide) rfl, (Below.refl _ _).alloc (Nat.le_refl _) _⟩
  case round =>
    obtain ⟨k, hk, rfl, hh⟩ := hrel
    obtain ⟨hown, hbel⟩ := hh.out
    clear hh
    have HO := Lib.hid hown
    have HB := Lib.hid hbel
    have hbs := hbel.size
    obtain ⟨A0, c0, rfl⟩ := own_form hown
    clear hown hbel
    by_cases hlt : k + 1 < 1997 + x
    · go_wp2_with (at_builtin; refine wpList_append_own _ rfl _ _ 40 rfl w.heap.size 39 i0 _ 5 72 Tryd.underlying40 hi hz0 hz1 hz2 rfl (by decide) _ (k + 1) (tksC (bigT k)) rfl (HO.out.alloc _) ⟨wr.heap.size, 0, none⟩ 1 1 (tkC (tkOpen [97] true)) rfl rfl (cells_five_new _ _ _ _ _ _ _) (five_oneCell _ _ _ _ _ _ _) (by unfold maxLen; omega) (by omega) (by simp; omega) ?_)
      intro v' w5 hown5 hgrow5 _
      have X : Hid (w5.ownsRow w.heap.size 39 5 v' (k + 1 + 1) (tksC (bigT (k + 1))) ∧ Below w.heap.size w w5) := Lib.hid (by
        refine ⟨?_, Below.grown (HB.out.alloc (by omega) _) hgrow5 (by simp; omega) (fun j hj => (HO.out.lt _ hj).1)⟩
        rw [bigT_snoc, tksC_snoc]
        exact hown5)
      clear hown5 hgrow5
      go_wp2_with fail
      go_roundw
      case rel => exact ⟨k + 1, by omega, by go_num, X.out⟩
      case measure => simp [intOf]; omega
    · go_wp2_with (at_builtin; refine wpList_append_own _ rfl _ _ 40 rfl w.heap.size 39 i0 _ 5 72 Tryd.underlying40 hi hz0 hz1 hz2 rfl (by decide) _ (k + 1) (tksC (bigT k)) rfl (HO.out.alloc _) ⟨wr.heap.size, 0, none⟩ 1 1 (tkC (tkClose [114])) rfl rfl (cells_five_new _ _ _ _ _ _ _) (five_oneCell _ _ _ _ _ _ _) (by unfold maxLen; omega) (by omega) (by simp; omega) ?_)
      intro v' w5 hown5 hgrow5 _
      rw [← tksC_snoc] at hown5
      have hlen5 : (bigT k ++ [tkClose [114]]).length = k + 1 + 1 := by rw [List.length_append, bigT_len]; rfl
      have HB5 : Hid (Below w.heap.size w w5) := Lib.hid (Below.grown (HB.out.alloc (by omega) _) hgrow5 (by simp; omega) (fun j hj => (HO.out.lt _ hj).1))
      obtain ⟨A5, c5, rfl⟩ := own_form hown5
      have HR5 : Hid (ToksR w5.heap.size w5 (.slice A5 (k + 1 + 1) c5) (bigT k ++ [tkClose [114]])) := Lib.hid ⟨_, by rw [hlen5]; exact RowR.of hown5 (Nat.le_refl _), tksC_cells _ (big_plain k)⟩
      have HL5 := Lib.hid hlen5
      have hs5 := HB5.out.size
      clear hown5 hgrow5 hlen5
      go_wp2_with fail
      refine (Tree_c (bigT k ++ [tkClose [114]]) A5 (k + 1 + 1) c5 _ HR5.out HL5.out.symm (by omega) (big_attrs k) (by rw [big_texts]; decide)).mono ?_
      rintro e w6 ⟨A6, c6, rfl, hn6, hb6⟩
      have HB6 : Hid (Below w.heap.size w w6) := Lib.hid (HB5.out.trans (hb6.mono hs5))
      clear hn6 hb6
      by_cases hbig : k + 1 ≤ 2000
      · obtain ⟨q1, q2⟩ := big_errOk hbig
        rw [q1, q2]
        clear q1 q2
        go_wp2_with (go_at_call 8; refine (awake3_c _ (HG.out.below HB6.out)).mono ?_; rintro e w7 ⟨rfl, hb7⟩)
        all_goals go_ret
        all_goals exact ⟨ret_bool (by simp <;> omega), HB6.out.trans (hb7.mono HB6.out.size)⟩
      · obtain ⟨q1, q2⟩ := big_errNo hbig
        rw [q1, q2]
        clear q1 q2
        go_wp2_with (go_at_call 8; refine (awake3_c _ (HG.out.below HB6.out)).mono ?_; rintro e w7 ⟨rfl, hb7⟩)
        all_goals go_ret
        all_goals exact ⟨ret_bool (by simp <;> omega), HB6.out.trans (hb7.mono HB6.out.size)⟩
end Go.Proofs.YtbojnmiaheohaaaDoor
