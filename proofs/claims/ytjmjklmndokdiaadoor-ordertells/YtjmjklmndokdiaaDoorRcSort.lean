/-
  The document's before, Sort, Greatest (newelref05).
-/
import Derived.Test.YtjmjklmndokdiaaDoorRcWords
import Derived.Test.YtjmjklmndokdiaaDoorGnStrO
import Derived.Test.YtjmjklmndokdiaaDoorCsMath
import Derived.Deep.CutRange
import Derived.BigRegion
namespace Nwl
open Go
set_option linter.unusedVariables false
theorem before_way (a b : List UInt8) (r : Bool) (h : decide (ordV a b < 0) = r) : (cmpV a b = -1 ∧ r = true) ∨ (cmpV a b = 0 ∧ Op.bytesLess a b = r) ∨ (cmpV a b = 1 ∧ r = false) := by
  rcases ord_v.sgn a b with hs | hs | hs
  · refine .inl ⟨hs, ?_⟩
    rw [← h]
    unfold ordV thenI
    rw [hs]; rfl
  · refine .inr (.inl ⟨hs, ?_⟩)
    rw [← h, less_cb]
    unfold ordV thenI
    rw [hs, if_pos rfl]
    rcases cb_sgn a b with q | q | q <;> rw [q] <;> decide
  · refine .inr (.inr ⟨hs, ?_⟩)
    rw [← h]
    unfold ordV thenI
    rw [hs]; rfl
theorem sortV_nil : sortV [] = [] := by simp [sortV]
/-- is what is put in before the one at k - 1? -/
def bfK (x : List UInt8) (o : List (List UInt8)) : Nat → Bool
  | 0 => false
  | m + 1 => decide (ordV x (o.getD m []) < 0)
theorem bfK_succ {x : List UInt8} {o : List (List UInt8)} {m : Nat} (hm : m < o.length) : bfK x o (m + 1) = decide (ordV x o[m] < 0) := by
  show decide (ordV x (o.getD m []) < 0) = _
  rw [List.getD_eq_getElem?_getD, List.getElem?_eq_getElem hm, Option.getD_some]
end Nwl
namespace Go.Proofs.YtjmjklmndokdiaaDoor
open Nwl
open Go.RowKit Go.Maps
set_option linter.unusedVariables false
set_option linter.unusedSimpArgs false

set_option maxRecDepth 100000 in
set_option maxHeartbeats 1000000 in
theorem rbefore_c (a b : ByteArray) (w : World) (ha : a.size ≤ 3000) (hb : b.size ≤ 3000) (r : Bool) (hr : decide (ordV (bs a) (bs b) < 0) = r) :
    Calls Tryd.prog 30 #[.string a, .string b] w fun e w' => e = .returned (.bool r) ∧ Hid (Below w.heap.size w w') := by
  rcases before_way _ _ _ hr with ⟨hs, rfl⟩ | ⟨hs, hl⟩ | ⟨hs, rfl⟩
  · have HC := Lib.hid hs
    clear hs hr
    go_enter Tryd.func30, Tryd.ntmps30
    go_wp2_with fail
    refine (rCompare_c a b _ ha hb _ HC.out).mono ?_
    rintro e w1 ⟨rfl, b1⟩
    go_wp2_with fail
    go_ret
    exact ⟨rfl, b1⟩
  · have HC := Lib.hid hs
    have hl2 : Op.bytesLess a.toList b.toList = r := by rw [toList_bs, toList_bs]; exact hl
    clear hs hr hl
    cases r
    all_goals
      go_enter Tryd.func30, Tryd.ntmps30
      go_wp2_with fail
      refine (rCompare_c a b _ ha hb _ HC.out).mono ?_
      rintro e w1 ⟨rfl, b1⟩
      go_wp2_with fail
      go_ret
      exact ⟨rfl, b1⟩
  · have HC := Lib.hid hs
    clear hs hr
    go_enter Tryd.func30, Tryd.ntmps30
    go_wp2_with fail
    refine (rCompare_c a b _ ha hb _ HC.out).mono ?_
    rintro e w1 ⟨rfl, b1⟩
    go_wp2_with fail
    go_ret
    exact ⟨rfl, b1⟩

theorem wrap64_m {z : Int} {m : Nat} (h : z = ((m + 1 : Nat) : Int)) (hm : m ≤ 1000) : wrap64 (z - 1) = (m : Int) := by
  subst h
  unfold wrap64
  omega
theorem wrap_i64m {z : Int} {m : Nat} (h : z = ((m + 1 : Nat) : Int)) (hm : m ≤ 1000) : IntKind.i64.wrap (z - 1) = (m : Int) := by
  subst h
  have : (((m + 1 : Nat) : Int) - 1) = (m : Int) := by omega
  rw [this]
  simp [IntKind.wrap, IntKind.bits, IntKind.signed]
  omega
theorem below_d' {w w2 : World} (h : Below w.drew.heap.size w.drew w2) : Below w.heap.size w w2 := (Below.refl _ w).drew.trans h
/-- an append inside a region that is walked by hand -/
theorem run_app {P : Program} {w w' : World} {ops : Array Oper} {o : Oper} {a : Act} {K : Act → World → Prop} {Q : Exit → Act → World → Prop} {E : Prop} (hgd : o.guard = none) (s x : Operand) (t u : TypeId)
    (ho : o.op = .call { callee := .builtin .append, args := #[s, x], argTypes := #[t, u] }) (v1 v2 v' : Value) (ty : TypeId) (hs : a.eval s = v1) (hx : a.eval x = v2) (hty : o.type = ty)
    (hrun : (Builtin.append_ #[t, u] ty #[v1, v2]).run P w = .ok v' w') (hK : K (a.put o.dst v') w') :
    if Region.wanted o (yielded ops a.tmps) = true then Oper.wp P o a w K Q else E := by
  have hw : Region.wanted o (yielded ops a.tmps) = true := by simp [Region.wanted, hgd]
  rw [if_pos hw]
  subst hty
  unfold Oper.wp execOp
  simp only [ho, resolve, invoke, builtin, Sem.run_bind, Sem.run_pure, Result.andThen_ok, List.map_toArray, List.map_cons, List.map_nil, hs, hx, hrun]
  exact hK
/-- where a part of a row begins -/
def dropA (A : Option Addr) (c k : Nat) : Option Addr := if c = k then A else A.map (·.add k)
theorem StrR.upto {B : Nat} {w : World} {A : Option Addr} {n : Nat} {l : List (List UInt8)} (h : StrR B w A n l) {k : Nat} (hk : k ≤ n) : StrR B w A k (l.take k) := by
  have := h.1
  refine ⟨by rw [List.length_take]; omega, fun j hj => ?_⟩
  rw [List.length_take] at hj
  rw [List.getElem_take]
  exact h.2 j (by omega)
theorem StrO.drop {B : Nat} {w : World} {A : Option Addr} {n c : Nat} {l : List (List UInt8)} (h : StrO B w A n c l) {k : Nat} (hk : k ≤ n) : StrR w.heap.size w (dropA A c k) (n - k) (l.drop k) ∧ (dropA A c k = none → n - k = 0 ∧ c - k = 0) := by
  have hr := h.r
  have hn := h.1
  have hf := h.form
  have hc : A ≠ none → n ≤ c := by
    intro hA
    rcases h.2.2 with ⟨hv, _⟩ | ⟨g, cap, cur, hv, hg, hh, hc, _⟩
    · injection hv with e1 _ _; exact absurd e1 hA
    · injection hv with _ _ e3; omega
  refine ⟨⟨by rw [List.length_drop, hn], fun j hj => ?_⟩, fun hd => ?_⟩
  · rw [List.length_drop] at hj
    obtain ⟨g, o, e, hg, hcell⟩ := hr.2 (k + j) (by omega)
    have hcn := hc (by rw [e]; simp)
    refine ⟨g, o + k, ?_, hg, ?_⟩
    · unfold dropA
      rw [if_neg (by omega), e]
      simp [Addr.add]
    · rw [List.getElem_drop, Nat.add_assoc]
      exact hcell
  · cases A with
    | none =>
      obtain ⟨rfl, rfl⟩ := hf rfl
      omega
    | some a =>
      have hcn := hc (by simp)
      unfold dropA at hd
      split at hd
      · cases hd
      · cases hd

set_option maxRecDepth 100000 in
set_option maxHeartbeats 8000000 in
theorem rSort_c (A : Option Addr) (n c : Nat) (l : List (List UInt8)) (w : World) (h : StrR w.heap.size w A n l) (hn : n ≤ 1000) (hl : ∀ x ∈ l, x.length ≤ 3000) :
    Calls Tryd.prog 16 #[.slice A n c] w fun e w' => ∃ A' c', e = .returned (.slice A' n c') ∧ Hid (StrO w.heap.size w' A' n c' (sortV l) ∧ Below w.heap.size w w') := by
  have H := Lib.hid h
  have HL := Lib.hid hl
  have HN : Hid (n = l.length) := Lib.hid h.1
  clear h hl
  go_enter Tryd.func16, Tryd.ntmps16
  go_wp2_with fail
  go_loopw [3, 4] (fun ov iv wr => ∃ (i : Nat) (Ao : Option Addr) (co : Nat), i ≤ n ∧ ov = .slice Ao i co ∧ iv = .int .i64 i ∧ Hid (StrO w.heap.size wr Ao i co (sortV (l.take i)) ∧ Below w.heap.size w wr)) (fun _ iv _ => n - (intOf iv).toNat)
  case atStart => exact ⟨0, none, 0, by omega, rfl, rfl, Lib.hid ⟨by rw [List.take_zero, sortV_nil]; exact StrO.nil _ _, Below.refl _ _⟩⟩
  case round =>
    obtain ⟨i, Ao, co, hin, rfl, rfl, hh⟩ := hrel
    by_cases hlt : i < n
    · have hil : i < l.length := by have := HN.out; omega
      obtain ⟨g, o, rfl, hg, hc⟩ := H.out.2 i hil
      obtain ⟨x, hx⟩ : ∃ x, l[i] = x := ⟨_, rfl⟩
      rw [hx] at hc
      obtain ⟨ol, hol⟩ : ∃ ol, sortV (l.take i) = ol := ⟨_, rfl⟩
      have HB := Lib.hid hh.out.2
      have HROW : Hid (StrO w.heap.size wr Ao i co ol) := Lib.hid (by rw [← hol]; exact hh.out.1)
      have HC : Hid (wr.cell? ⟨g, o + i, none⟩ = some (.string (tx x))) := Lib.hid ((HB.out.cell (p := ⟨g, o + i, none⟩) hg).trans hc)
      have HG : Hid (g < wr.heap.size) := Lib.hid (Nat.lt_of_lt_of_le hg HB.out.size)
      have HOLN : Hid (ol.length = i) := Lib.hid HROW.out.1.symm
      have HOX : Hid (∀ y ∈ ol, y.length ≤ 3000) := Lib.hid fun y hy => by
        rw [← hol] at hy
        exact HL.out y (List.mem_of_mem_take ((sortV_perm _).mem_iff.1 hy))
      have hxs : (tx x).size ≤ 3000 := by rw [tx_size, ← hx]; exact HL.out _ (List.getElem_mem hil)
      have HPS : Hid (∀ k, k ≤ ol.length → (∀ j (hj : j < ol.length), k ≤ j → ordV x ol[j] < 0) → bfK x ol k = false → sortV (l.take (i + 1)) = putAt ol k x) := Lib.hid (by
        intro k hk hb hf
        refine put_sort l i k hil x hx ol hol hk hb fun h0 hbad => ?_
        obtain ⟨m, rfl⟩ : ∃ m, k = m + 1 := ⟨k - 1, by omega⟩
        have hlm : m < ol.length := by omega
        rw [bfK_succ hlm] at hf
        simp only [Nat.add_sub_cancel] at hbad
        exact of_decide_eq_false hf hbad)
      clear hh hx hol hc hg hil
      generalize wr = wo at *
      go_wp2_with fail
      go_loopw [5] (fun kv wq => ∃ (z : Int) (k : Nat), kv = .int .i64 z ∧ z = (k : Int) ∧ k ≤ i ∧ Hid (Below wo.heap.size wo wq ∧ ∀ j (hj : j < ol.length), k ≤ j → ordV x ol[j] < 0)) (fun kv _ => (intOf kv).toNat)
      case atStart => exact ⟨_, i, rfl, rfl, Nat.le_refl _, Lib.hid ⟨Below.refl _ _, fun j hj h => by have := HOLN.out; omega⟩⟩
      case round =>
        generalize wr = wq at *
        obtain ⟨z, k, rfl, hz, hki, hq⟩ := hrel
        have HQB := Lib.hid hq.out.1
        have HQO := Lib.hid hq.out.2
        clear hq
        obtain ⟨d, hd⟩ : ∃ d, bfK x ol k = d := ⟨_, rfl⟩
        have HDD := Lib.hid hd
        have HZ := Lib.hid hz
        go_upto_region 6 with fail
        go_cut [27] from 14 to 29 (fun v wx => v = .bool d ∧ Hid (Below wo.heap.size wo wx))
        case first =>
          cases k with
          | zero =>
            obtain rfl : z = 0 := hz
            obtain rfl : false = d := hd
            refine wp_region_any (by kernel_rfl) ?_
            change wpAny _ _ _ _ _ _ _ (World.drew _)
            refine wpAny_take (i := 0) (v := .int .i64 0) rfl (by kernel_rfl) (by kernel_rfl) (by kernel_rfl) (fun _ _ _ h => h) (Or.inl ⟨by rfl, fun W => by go_simp⟩) ?_
            simp only [Act.put, List.getElem_toArray, List.getElem_cons_zero, List.getElem_cons_succ, List.setIfInBounds_toArray, List.set_cons_zero, List.set_cons_succ]
            refine wpAny_take (i := 1) (v := .bool false) rfl (by kernel_rfl) (by kernel_rfl) (by kernel_rfl) (fun _ _ _ h => h) (Or.inl ⟨by rfl, fun W => by go_simp⟩) ?_
            simp only [Act.put, List.getElem_toArray, List.getElem_cons_zero, List.getElem_cons_succ, List.setIfInBounds_toArray, List.set_cons_zero, List.set_cons_succ]
            refine wpAny_take (i := 2) (v := .bool false) rfl (by kernel_rfl) (by kernel_rfl) (by kernel_rfl) (fun _ _ _ h => h) (Or.inl ⟨by rfl, fun W => by go_simp⟩) ?_
            simp only [Act.put, List.getElem_toArray, List.getElem_cons_zero, List.getElem_cons_succ, List.setIfInBounds_toArray, List.set_cons_zero, List.set_cons_succ]
            refine wpAny_take (i := 3) (v := undef) rfl (by kernel_rfl) (by kernel_rfl) (by kernel_rfl) (fun _ _ _ h => h) (Or.inr ⟨by rfl, rfl⟩) ?_
            simp only [Act.put, List.getElem_toArray, List.getElem_cons_zero, List.getElem_cons_succ, List.setIfInBounds_toArray, List.set_cons_zero, List.set_cons_succ]
            refine wpAny_take (i := 4) (v := undef) rfl (by kernel_rfl) (by kernel_rfl) (by kernel_rfl) (fun _ _ _ h => h) (Or.inr ⟨by rfl, rfl⟩) ?_
            simp only [Act.put, List.getElem_toArray, List.getElem_cons_zero, List.getElem_cons_succ, List.setIfInBounds_toArray, List.set_cons_zero, List.set_cons_succ]
            refine wpAny_take (i := 5) (v := undef) rfl (by kernel_rfl) (by kernel_rfl) (by kernel_rfl) (fun _ _ _ h => h) (Or.inr ⟨by rfl, rfl⟩) ?_
            simp only [Act.put, List.getElem_toArray, List.getElem_cons_zero, List.getElem_cons_succ, List.setIfInBounds_toArray, List.set_cons_zero, List.set_cons_succ]
            refine wpAny_take (i := 6) (v := undef) rfl (by kernel_rfl) (by kernel_rfl) (by kernel_rfl) (fun _ _ _ h => h) (Or.inr ⟨by rfl, rfl⟩) ?_
            simp only [Act.put, List.getElem_toArray, List.getElem_cons_zero, List.getElem_cons_succ, List.setIfInBounds_toArray, List.set_cons_zero, List.set_cons_succ]
            refine wpAny_take (i := 7) (v := undef) rfl (by kernel_rfl) (by kernel_rfl) (by kernel_rfl) (fun _ _ _ h => h) (Or.inr ⟨by rfl, rfl⟩) ?_
            simp only [Act.put, List.getElem_toArray, List.getElem_cons_zero, List.getElem_cons_succ, List.setIfInBounds_toArray, List.set_cons_zero, List.set_cons_succ]
            refine wpAny_take (i := 8) (v := undef) rfl (by kernel_rfl) (by kernel_rfl) (by kernel_rfl) (fun _ _ _ h => h) (Or.inr ⟨by rfl, rfl⟩) ?_
            simp only [Act.put, List.getElem_toArray, List.getElem_cons_zero, List.getElem_cons_succ, List.setIfInBounds_toArray, List.set_cons_zero, List.set_cons_succ]
            refine wpAny_take (i := 9) (v := undef) rfl (by kernel_rfl) (by kernel_rfl) (by kernel_rfl) (fun _ _ _ h => h) (Or.inr ⟨by rfl, rfl⟩) ?_
            simp only [Act.put, List.getElem_toArray, List.getElem_cons_zero, List.getElem_cons_succ, List.setIfInBounds_toArray, List.set_cons_zero, List.set_cons_succ]
            refine wpAny_take (i := 10) (v := undef) rfl (by kernel_rfl) (by kernel_rfl) (by kernel_rfl) (fun _ _ _ h => h) (Or.inr ⟨by rfl, rfl⟩) ?_
            simp only [Act.put, List.getElem_toArray, List.getElem_cons_zero, List.getElem_cons_succ, List.setIfInBounds_toArray, List.set_cons_zero, List.set_cons_succ]
            refine wpAny_take (i := 11) (v := undef) rfl (by kernel_rfl) (by kernel_rfl) (by kernel_rfl) (fun _ _ _ h => h) (Or.inr ⟨by rfl, rfl⟩) ?_
            simp only [Act.put, List.getElem_toArray, List.getElem_cons_zero, List.getElem_cons_succ, List.setIfInBounds_toArray, List.set_cons_zero, List.set_cons_succ]
            refine wpAny_take (i := 12) (v := undef) rfl (by kernel_rfl) (by kernel_rfl) (by kernel_rfl) (fun _ _ _ h => h) (Or.inr ⟨by rfl, rfl⟩) ?_
            simp only [Act.put, List.getElem_toArray, List.getElem_cons_zero, List.getElem_cons_succ, List.setIfInBounds_toArray, List.set_cons_zero, List.set_cons_succ]
            refine wpAny_take (i := 13) (v := .bool false) rfl (by kernel_rfl) (by kernel_rfl) (by kernel_rfl) (fun _ _ _ h => h) (Or.inl ⟨by rfl, fun W => by go_simp⟩) ?_
            simp only [Act.put, List.getElem_toArray, List.getElem_cons_zero, List.getElem_cons_succ, List.setIfInBounds_toArray, List.set_cons_zero, List.set_cons_succ]
            refine wpAny_done (by kernel_rfl) ?_ _
            go_wp2_with fail
            go_meet
            exact ⟨rfl, Lib.hid HQB.out.drew⟩
          | succ m =>
            have hm : m < ol.length := by have := HOLN.out; omega
            obtain ⟨gq, oq, hA, hgq, hcq⟩ := HROW.out.r.2 m hm
            obtain ⟨y, hy⟩ : ∃ y, ol[m] = y := ⟨_, rfl⟩
            rw [hy] at hcq
            have hys : (tx y).size ≤ 3000 := by rw [tx_size]; exact HOX.out y (by rw [← hy]; exact List.getElem_mem hm)
            have HD : Hid (decide (ordV (bs (tx x)) (bs (tx y)) < 0) = d) := Lib.hid (by
              rw [bs_tx, bs_tx, ← hd, bfK_succ hm, hy])
            obtain rfl : oq = 0 := by
              rcases HROW.out.2.2 with ⟨hv, _⟩ | ⟨g', cap, cur, hv, _⟩
              · injection hv with e1 _ _; rw [hA] at e1; cases e1
              · injection hv with e1 _ _; rw [hA] at e1; injection e1 with e1; injection e1 with _ e1 _
            subst hA
            have hcq2 : wq.cell? ⟨gq, m, none⟩ = some (.string (tx y)) := by rw [Nat.zero_add] at hcq; exact (HQB.out.cell (p := ⟨gq, m, none⟩) hgq).trans hcq
            have hc2 : wq.cell? ⟨g, o + i, none⟩ = some (.string (tx x)) := (HQB.out.cell (p := ⟨g, o + i, none⟩) HG.out).trans HC.out
            have hz0 : 0 < z := by omega
            have hw1 : IntKind.i64.wrap (z - 1) = (m : Int) := wrap_i64m hz (by omega)
            have hw2 : wrap64 (z - 1) = (m : Int) := wrap64_m hz (by omega)
            have hmi : m < i := by omega
            clear hd hz hy hcq hgq hm HDD
            refine wp_region_any (by kernel_rfl) ?_
            change wpAny _ _ _ _ _ _ _ (World.drew _)
            refine wpAny_take (i := 0) (v := .int .i64 z) rfl (by kernel_rfl) (by kernel_rfl) (by kernel_rfl) (fun _ _ _ h => h) (Or.inl ⟨by rfl, fun W => by go_simp⟩) ?_
            simp only [Act.put, List.getElem_toArray, List.getElem_cons_zero, List.getElem_cons_succ, List.setIfInBounds_toArray, List.set_cons_zero, List.set_cons_succ]
            refine wpAny_take (i := 1) (v := .bool true) rfl (by kernel_rfl) (by kernel_rfl) (by kernel_rfl) (fun _ _ _ h => h) (Or.inl ⟨by rfl, fun W => by go_simp⟩) ?_
            simp only [Act.put, List.getElem_toArray, List.getElem_cons_zero, List.getElem_cons_succ, List.setIfInBounds_toArray, List.set_cons_zero, List.set_cons_succ]
            refine wpAny_take (i := 2) (v := .bool true) rfl (by kernel_rfl) (by kernel_rfl) (by kernel_rfl) (fun _ _ _ h => h) (Or.inl ⟨by rfl, fun W => by go_simp⟩) ?_
            simp only [Act.put, List.getElem_toArray, List.getElem_cons_zero, List.getElem_cons_succ, List.setIfInBounds_toArray, List.set_cons_zero, List.set_cons_succ]
            refine wpAny_take (i := 3) (v := .slice (some ⟨g, o, none⟩) n c) rfl (by kernel_rfl) (by kernel_rfl) (by kernel_rfl) (fun _ _ _ h => h) (Or.inl ⟨by rfl, fun W => by go_simp⟩) ?_
            simp only [Act.put, List.getElem_toArray, List.getElem_cons_zero, List.getElem_cons_succ, List.setIfInBounds_toArray, List.set_cons_zero, List.set_cons_succ]
            refine wpAny_take (i := 4) (v := .int .i64 (i : Int)) rfl (by kernel_rfl) (by kernel_rfl) (by kernel_rfl) (fun _ _ _ h => h) (Or.inl ⟨by rfl, fun W => by go_simp⟩) ?_
            simp only [Act.put, List.getElem_toArray, List.getElem_cons_zero, List.getElem_cons_succ, List.setIfInBounds_toArray, List.set_cons_zero, List.set_cons_succ]
            refine wpAny_take (i := 5) (v := .pointer (some ⟨g, o + i, none⟩)) rfl (by kernel_rfl) (by kernel_rfl) (by kernel_rfl) (fun _ _ _ h => h) (Or.inl ⟨by rfl, fun W => by go_simp⟩) ?_
            simp only [Act.put, List.getElem_toArray, List.getElem_cons_zero, List.getElem_cons_succ, List.setIfInBounds_toArray, List.set_cons_zero, List.set_cons_succ]
            refine wpAny_take (i := 7) (v := .slice (some ⟨gq, 0, none⟩) i co) rfl (by kernel_rfl) (by kernel_rfl) (by kernel_rfl) (fun _ _ _ h => h) (Or.inl ⟨by rfl, fun W => by go_simp⟩) ?_
            simp only [Act.put, List.getElem_toArray, List.getElem_cons_zero, List.getElem_cons_succ, List.setIfInBounds_toArray, List.set_cons_zero, List.set_cons_succ]
            refine wpAny_take (i := 8) (v := .int .i64 z) rfl (by kernel_rfl) (by kernel_rfl) (by kernel_rfl) (fun _ _ _ h => h) (Or.inl ⟨by rfl, fun W => by go_simp⟩) ?_
            simp only [Act.put, List.getElem_toArray, List.getElem_cons_zero, List.getElem_cons_succ, List.setIfInBounds_toArray, List.set_cons_zero, List.set_cons_succ]
            refine wpAny_take (i := 9) (v := .int .i64 (m : Int)) rfl (by kernel_rfl) (by kernel_rfl) (by kernel_rfl) (fun _ _ _ h => h) (Or.inl ⟨by rfl, fun W => by (go_simp; first | done | exact hw1 | (rw [hw1]))⟩) ?_
            simp only [Act.put, List.getElem_toArray, List.getElem_cons_zero, List.getElem_cons_succ, List.setIfInBounds_toArray, List.set_cons_zero, List.set_cons_succ]
            refine wpAny_take (i := 10) (v := .pointer (some ⟨gq, m, none⟩)) rfl (by kernel_rfl) (by kernel_rfl) (by kernel_rfl) (fun _ _ _ h => h) (Or.inl ⟨by rfl, fun W => by go_simp⟩) ?_
            simp only [Act.put, List.getElem_toArray, List.getElem_cons_zero, List.getElem_cons_succ, List.setIfInBounds_toArray, List.set_cons_zero, List.set_cons_succ]
            refine wpAny_ready (rs := [6, 11]) (by kernel_rfl) (by simp) ?_
            refine AllReady.cons rfl (fun K hK => ?_) (AllReady.cons rfl (fun K hK => ?_) AllReady.nil)
            · go_simp
              refine hK _ _ ?_
              clear hK K
              refine wpAny_ready (rs := [11]) (by kernel_rfl) (by simp) ?_
              refine AllReady.cons rfl (fun K hK => ?_) AllReady.nil
              go_simp
              refine hK _ _ ?_
              clear hK K
              refine wpAny_ready (rs := [12]) (by kernel_rfl) (by simp) ?_
              refine AllReady.cons rfl (fun K hK => ?_) AllReady.nil
              go_simp
              go_wp2_with (go_at_call 30; refine (rbefore_c (tx x) (tx y) _ hxs hys d HD.out).mono ?_; rintro e w2 ⟨rfl, b2⟩)
              have B2 := Lib.hid (HQB.out.trans ((below_d b2.out).mono HQB.out.size))
              refine wpAny_take (i := 13) (v := .bool d) rfl (by kernel_rfl) (by kernel_rfl) (by kernel_rfl) (fun _ _ _ h => h) (Or.inl ⟨by rfl, fun W => by go_simp⟩) ?_
              simp only [Act.put, List.getElem_toArray, List.getElem_cons_zero, List.getElem_cons_succ, List.setIfInBounds_toArray, List.set_cons_zero, List.set_cons_succ]
              refine wpAny_done (by kernel_rfl) ?_ _
              go_wp2_with fail
              go_meet
              exact ⟨rfl, B2⟩
            · go_simp
              refine hK _ _ ?_
              clear hK K
              refine wpAny_ready (rs := [6]) (by kernel_rfl) (by simp) ?_
              refine AllReady.cons rfl (fun K hK => ?_) AllReady.nil
              go_simp
              refine hK _ _ ?_
              clear hK K
              refine wpAny_ready (rs := [12]) (by kernel_rfl) (by simp) ?_
              refine AllReady.cons rfl (fun K hK => ?_) AllReady.nil
              go_simp
              go_wp2_with (go_at_call 30; refine (rbefore_c (tx x) (tx y) _ hxs hys d HD.out).mono ?_; rintro e w2 ⟨rfl, b2⟩)
              have B2 := Lib.hid (HQB.out.trans ((below_d b2.out).mono HQB.out.size))
              refine wpAny_take (i := 13) (v := .bool d) rfl (by kernel_rfl) (by kernel_rfl) (by kernel_rfl) (fun _ _ _ h => h) (Or.inl ⟨by rfl, fun W => by go_simp⟩) ?_
              simp only [Act.put, List.getElem_toArray, List.getElem_cons_zero, List.getElem_cons_succ, List.setIfInBounds_toArray, List.set_cons_zero, List.set_cons_succ]
              refine wpAny_done (by kernel_rfl) ?_ _
              go_wp2_with fail
              go_meet
              exact ⟨rfl, B2⟩
        case rest =>
        obtain ⟨rfl, hB6⟩ := hcut
        generalize wc = W6 at *
        cases d with
        | true =>
          obtain ⟨m, rfl⟩ : ∃ m, k = m + 1 := by
            cases k with
            | zero => cases hd
            | succ m => exact ⟨m, rfl⟩
          have HNX : Hid (∀ j (hj : j < ol.length), m ≤ j → ordV x ol[j] < 0) := Lib.hid fun j hj hmj => by
            by_cases e : j = m
            · subst e
              have := HDD.out
              rw [bfK_succ hj] at this
              exact of_decide_eq_true this
            · exact HQO.out j hj (by omega)
          have hw1 : IntKind.i64.wrap (z - 1) = (m : Int) := wrap_i64m hz (by omega)
          have hw2 : wrap64 (z - 1) = (m : Int) := wrap64_m hz (by omega)
          have hzt : z.toNat = m + 1 := by omega
          clear hd
          go_wp2_with fail
          go_roundw
          case rel => exact ⟨_, m, rfl, by first | exact hw2 | rfl, by omega, Lib.hid ⟨hB6.out, HNX.out⟩⟩
          case measure => simp [intOf, hw2, hzt]
        | false =>
          obtain rfl : z = (k : Int) := hz
          have HPUT : Hid (sortV (l.take (i + 1)) = putAt ol k x) := Lib.hid (HPS.out k (by have := HOLN.out; omega) HQO.out HDD.out)
          have R6 := HROW.out.below hB6.out
          have SU : Hid (StrR W6.heap.size W6 Ao k (ol.take k)) := Lib.hid (R6.r.upto hki)
          have UF : Hid (Ao = none → k = 0 ∧ co = 0) := Lib.hid (by intro e; have := R6.form e; omega)
          have SD := Lib.hid (R6.drop hki).1
          have DF := Lib.hid (R6.drop hki).2
          have hco : Hid (i ≤ co) := Lib.hid (by
            rcases R6.2.2 with ⟨hv, h0⟩ | ⟨g', cap, cur, hv, hg, hh, hc, _⟩
            · injection hv with _ e2 e3; omega
            · injection hv with _ _ e3; omega)
          have hc6 : W6.cell? ⟨g, o + i, none⟩ = some (.string (tx x)) := (hB6.out.cell (p := ⟨g, o + i, none⟩) HG.out).trans HC.out
          have hg6 : g < W6.heap.size := Nat.lt_of_lt_of_le HG.out hB6.out.size
          have hkco : k ≤ co := Nat.le_trans hki hco.out
          clear R6 hd HDD
          go_upto_region 8 with fail
          refine wp_region_any (by kernel_rfl) ?_
          change wpAny _ _ _ _ _ _ _ (World.drew _)
          refine wpAny_take (i := 0) (v := .slice Ao i co) rfl (by kernel_rfl) (by kernel_rfl) (by kernel_rfl) (fun _ _ _ h => h) (Or.inl ⟨by rfl, fun W => by go_simp⟩) ?_
          simp only [Act.put, List.getElem_toArray, List.getElem_cons_zero, List.getElem_cons_succ, List.setIfInBounds_toArray, List.set_cons_zero, List.set_cons_succ]
          refine wpAny_take (i := 1) (v := .int .i64 (k : Int)) rfl (by kernel_rfl) (by kernel_rfl) (by kernel_rfl) (fun _ _ _ h => h) (Or.inl ⟨by rfl, fun W => by go_simp⟩) ?_
          simp only [Act.put, List.getElem_toArray, List.getElem_cons_zero, List.getElem_cons_succ, List.setIfInBounds_toArray, List.set_cons_zero, List.set_cons_succ]
          refine wpAny_take (i := 2) (v := .slice Ao k co) rfl (by kernel_rfl) (by kernel_rfl) (by kernel_rfl) (fun _ _ _ h => h) (Or.inl ⟨by rfl, fun W => by (go_simp; first | done | rfl)⟩) ?_
          simp only [Act.put, List.getElem_toArray, List.getElem_cons_zero, List.getElem_cons_succ, List.setIfInBounds_toArray, List.set_cons_zero, List.set_cons_succ]
          refine wpAny_take (i := 4) (v := .slice (some ⟨g, o, none⟩) n c) rfl (by kernel_rfl) (by kernel_rfl) (by kernel_rfl) (fun _ _ _ h => h) (Or.inl ⟨by rfl, fun W => by go_simp⟩) ?_
          simp only [Act.put, List.getElem_toArray, List.getElem_cons_zero, List.getElem_cons_succ, List.setIfInBounds_toArray, List.set_cons_zero, List.set_cons_succ]
          refine wpAny_take (i := 5) (v := .int .i64 (i : Int)) rfl (by kernel_rfl) (by kernel_rfl) (by kernel_rfl) (fun _ _ _ h => h) (Or.inl ⟨by rfl, fun W => by go_simp⟩) ?_
          simp only [Act.put, List.getElem_toArray, List.getElem_cons_zero, List.getElem_cons_succ, List.setIfInBounds_toArray, List.set_cons_zero, List.set_cons_succ]
          refine wpAny_take (i := 6) (v := .pointer (some ⟨g, o + i, none⟩)) rfl (by kernel_rfl) (by kernel_rfl) (by kernel_rfl) (fun _ _ _ h => h) (Or.inl ⟨by rfl, fun W => by go_simp⟩) ?_
          simp only [Act.put, List.getElem_toArray, List.getElem_cons_zero, List.getElem_cons_succ, List.setIfInBounds_toArray, List.set_cons_zero, List.set_cons_succ]
          refine wpAny_take (i := 10) (v := .slice Ao i co) rfl (by kernel_rfl) (by kernel_rfl) (by kernel_rfl) (fun _ _ _ h => h) (Or.inl ⟨by rfl, fun W => by go_simp⟩) ?_
          simp only [Act.put, List.getElem_toArray, List.getElem_cons_zero, List.getElem_cons_succ, List.setIfInBounds_toArray, List.set_cons_zero, List.set_cons_succ]
          refine wpAny_take (i := 11) (v := .int .i64 (k : Int)) rfl (by kernel_rfl) (by kernel_rfl) (by kernel_rfl) (fun _ _ _ h => h) (Or.inl ⟨by rfl, fun W => by go_simp⟩) ?_
          simp only [Act.put, List.getElem_toArray, List.getElem_cons_zero, List.getElem_cons_succ, List.setIfInBounds_toArray, List.set_cons_zero, List.set_cons_succ]
          refine wpAny_take (i := 12) (v := .slice (dropA Ao co k) (i - k) (co - k)) rfl (by kernel_rfl) (by kernel_rfl) (by kernel_rfl) (fun _ _ _ h => h) (Or.inl ⟨by rfl, fun W => by (go_simp; first | done | exact drop_slice _ _ _ _ | rfl)⟩) ?_
          simp only [Act.put, List.getElem_toArray, List.getElem_cons_zero, List.getElem_cons_succ, List.setIfInBounds_toArray, List.set_cons_zero, List.set_cons_succ]
          refine wpAny_ready (rs := [3, 7]) (by kernel_rfl) (by simp) ?_
          refine AllReady.cons rfl (fun K hK => ?_) (AllReady.cons rfl (fun K hK => ?_) AllReady.nil)
          · obtain ⟨A2, c2, W2, hr2, ho2, hb2⟩ := str_app (W := W6.drew) (StrO.nil W6.heap.size _) (Nat.le_refl _) SU.out.drew (UF.out) (by omega) (by omega)
            rw [Nat.zero_add] at hr2 ho2
            rw [List.nil_append] at ho2
            refine run_app (by rfl) _ _ _ _ (by rfl) _ _ _ _ (by rfl) (by rfl) (by rfl) hr2 ?_
            refine hK _ _ ?_
            clear hK K
            simp only [Act.put, List.getElem_toArray, List.getElem_cons_zero, List.getElem_cons_succ, List.setIfInBounds_toArray, List.set_cons_zero, List.set_cons_succ]
            have hc2 : W2.cell? ⟨g, o + i, none⟩ = some (.string (tx x)) := ((below_d hb2).cell (p := ⟨g, o + i, none⟩) hg6).trans hc6
            refine wpAny_ready (rs := [7]) (by kernel_rfl) (by simp) ?_
            refine AllReady.cons rfl (fun K hK => ?_) AllReady.nil
            go_simp
            refine hK _ _ ?_
            clear hK K
            refine wpAny_ready (rs := [8]) (by kernel_rfl) (by simp) ?_
            refine AllReady.cons rfl (fun K hK => ?_) AllReady.nil
            go_simp
            refine hK _ _ ?_
            clear hK K
            have hz2 : W6.heap.size ≤ W2.heap.size := hb2.size
            obtain ⟨A3, c3, W3, hr3, ho3, hb3⟩ := str_app (W := W2.alloc (.cells #[.string (tx x)] 9)) (ho2.below ((Below.refl _ _).alloc (Nat.le_refl _) _)) (by simp; omega) (StrR.blk (l := [x]) (Blk.new W2 9 #[.string (tx x)]) (Blk.new W2 9 #[.string (tx x)]).lt rfl) (fun e => by cases e) (by omega) (by simp) (c1 := 1)
            refine wpAny_ready (rs := [9]) (by kernel_rfl) (by simp) ?_
            refine AllReady.cons rfl (fun K hK => ?_) AllReady.nil
            refine run_app (by rfl) _ _ _ _ (by rfl) _ _ _ _ (by rfl) (by rfl) (by rfl) hr3 ?_
            refine hK _ _ ?_
            clear hK K
            simp only [Act.put, List.getElem_toArray, List.getElem_cons_zero, List.getElem_cons_succ, List.setIfInBounds_toArray, List.set_cons_zero, List.set_cons_succ]
            have bb3 : Below W6.heap.size W6 W3 := ((below_d hb2).alloc hz2 _).trans hb3
            obtain ⟨A4, c4, W4, hr4, ho4, hb4⟩ := str_app (W := W3) ho3 bb3.size ((SD.out.below bb3).mono bb3.size) DF.out (by simp; omega) (by omega)
            rw [show k + [x].length + (i - k) = i + 1 by simp; omega] at hr4 ho4
            refine wpAny_ready (rs := [13]) (by kernel_rfl) (by simp) ?_
            refine AllReady.cons rfl (fun K hK => ?_) AllReady.nil
            refine run_app (by rfl) _ _ _ _ (by rfl) _ _ _ _ (by rfl) (by rfl) (by rfl) hr4 ?_
            refine hK _ _ ?_
            clear hK K
            simp only [Act.put, List.getElem_toArray, List.getElem_cons_zero, List.getElem_cons_succ, List.setIfInBounds_toArray, List.set_cons_zero, List.set_cons_succ]
            refine wpAny_take (i := 14) (v := .slice A4 (i + 1) c4) rfl (by kernel_rfl) (by kernel_rfl) (by kernel_rfl) (fun _ _ _ h => h) (Or.inl ⟨by rfl, fun W => by go_simp⟩) ?_
            simp only [Act.put, List.getElem_toArray, List.getElem_cons_zero, List.getElem_cons_succ, List.setIfInBounds_toArray, List.set_cons_zero, List.set_cons_succ]
            refine wpAny_done (by kernel_rfl) ?_ _
            have BB := Lib.hid (HB.out.trans (hB6.out.mono HB.out.size))
            have HN2 : Hid (StrO w.heap.size W4 A4 (i + 1) c4 (sortV (l.take (i + 1))) ∧ Below w.heap.size w W4) := Lib.hid ⟨by rw [HPUT.out]; rw [List.append_assoc] at ho4; exact ho4.low BB.out.size, BB.out.trans ((bb3.trans hb4).mono BB.out.size)⟩
            clear hr4 ho4 hb4 bb3
            go_wp2_with fail
            go_roundw
            case rel => exact ⟨i + 1, A4, c4, by omega, rfl, by go_num, HN2⟩
            case measure => simp [intOf]; omega
          · go_simp
            refine hK _ _ ?_
            clear hK K
            refine wpAny_ready (rs := [3, 8]) (by kernel_rfl) (by simp) ?_
            refine AllReady.cons rfl (fun K hK => ?_) (AllReady.cons rfl (fun K hK => ?_) AllReady.nil)
            · obtain ⟨A2, c2, W2, hr2, ho2, hb2⟩ := str_app (W := W6.drew) (StrO.nil W6.heap.size _) (Nat.le_refl _) SU.out.drew (UF.out) (by omega) (by omega)
              rw [Nat.zero_add] at hr2 ho2
              rw [List.nil_append] at ho2
              refine run_app (by rfl) _ _ _ _ (by rfl) _ _ _ _ (by rfl) (by rfl) (by rfl) hr2 ?_
              refine hK _ _ ?_
              clear hK K
              simp only [Act.put, List.getElem_toArray, List.getElem_cons_zero, List.getElem_cons_succ, List.setIfInBounds_toArray, List.set_cons_zero, List.set_cons_succ]
              refine wpAny_ready (rs := [8]) (by kernel_rfl) (by simp) ?_
              refine AllReady.cons rfl (fun K hK => ?_) AllReady.nil
              go_simp
              refine hK _ _ ?_
              clear hK K
              have hz2 : W6.heap.size ≤ W2.heap.size := hb2.size
              obtain ⟨A3, c3, W3, hr3, ho3, hb3⟩ := str_app (W := W2.alloc (.cells #[.string (tx x)] 9)) (ho2.below ((Below.refl _ _).alloc (Nat.le_refl _) _)) (by simp; omega) (StrR.blk (l := [x]) (Blk.new W2 9 #[.string (tx x)]) (Blk.new W2 9 #[.string (tx x)]).lt rfl) (fun e => by cases e) (by omega) (by simp) (c1 := 1)
              refine wpAny_ready (rs := [9]) (by kernel_rfl) (by simp) ?_
              refine AllReady.cons rfl (fun K hK => ?_) AllReady.nil
              refine run_app (by rfl) _ _ _ _ (by rfl) _ _ _ _ (by rfl) (by rfl) (by rfl) hr3 ?_
              refine hK _ _ ?_
              clear hK K
              simp only [Act.put, List.getElem_toArray, List.getElem_cons_zero, List.getElem_cons_succ, List.setIfInBounds_toArray, List.set_cons_zero, List.set_cons_succ]
              have bb3 : Below W6.heap.size W6 W3 := ((below_d hb2).alloc hz2 _).trans hb3
              obtain ⟨A4, c4, W4, hr4, ho4, hb4⟩ := str_app (W := W3) ho3 bb3.size ((SD.out.below bb3).mono bb3.size) DF.out (by simp; omega) (by omega)
              rw [show k + [x].length + (i - k) = i + 1 by simp; omega] at hr4 ho4
              refine wpAny_ready (rs := [13]) (by kernel_rfl) (by simp) ?_
              refine AllReady.cons rfl (fun K hK => ?_) AllReady.nil
              refine run_app (by rfl) _ _ _ _ (by rfl) _ _ _ _ (by rfl) (by rfl) (by rfl) hr4 ?_
              refine hK _ _ ?_
              clear hK K
              simp only [Act.put, List.getElem_toArray, List.getElem_cons_zero, List.getElem_cons_succ, List.setIfInBounds_toArray, List.set_cons_zero, List.set_cons_succ]
              refine wpAny_take (i := 14) (v := .slice A4 (i + 1) c4) rfl (by kernel_rfl) (by kernel_rfl) (by kernel_rfl) (fun _ _ _ h => h) (Or.inl ⟨by rfl, fun W => by go_simp⟩) ?_
              simp only [Act.put, List.getElem_toArray, List.getElem_cons_zero, List.getElem_cons_succ, List.setIfInBounds_toArray, List.set_cons_zero, List.set_cons_succ]
              refine wpAny_done (by kernel_rfl) ?_ _
              have BB := Lib.hid (HB.out.trans (hB6.out.mono HB.out.size))
              have HN2 : Hid (StrO w.heap.size W4 A4 (i + 1) c4 (sortV (l.take (i + 1))) ∧ Below w.heap.size w W4) := Lib.hid ⟨by rw [HPUT.out]; rw [List.append_assoc] at ho4; exact ho4.low BB.out.size, BB.out.trans ((bb3.trans hb4).mono BB.out.size)⟩
              clear hr4 ho4 hb4 bb3
              go_wp2_with fail
              go_roundw
              case rel => exact ⟨i + 1, A4, c4, by omega, rfl, by go_num, HN2⟩
              case measure => simp [intOf]; omega
            · go_simp
              refine hK _ _ ?_
              clear hK K
              have hba : Below W6.heap.size W6 (W6.alloc (.cells #[.string (tx x)] 9)).drew := ((Below.refl _ _).alloc (Nat.le_refl _) _).drew
              obtain ⟨A2, c2, W2, hr2, ho2, hb2⟩ := str_app (W := (W6.alloc (.cells #[.string (tx x)] 9)).drew) (StrO.nil (W6.alloc (.cells #[.string (tx x)] 9)).drew.heap.size _) (Nat.le_refl _) ((SU.out.below hba).mono hba.size) (UF.out) (by omega) (by omega)
              rw [Nat.zero_add] at hr2 ho2
              rw [List.nil_append] at ho2
              refine wpAny_ready (rs := [3]) (by kernel_rfl) (by simp) ?_
              refine AllReady.cons rfl (fun K hK => ?_) AllReady.nil
              refine run_app (by rfl) _ _ _ _ (by rfl) _ _ _ _ (by rfl) (by rfl) (by rfl) hr2 ?_
              refine hK _ _ ?_
              clear hK K
              simp only [Act.put, List.getElem_toArray, List.getElem_cons_zero, List.getElem_cons_succ, List.setIfInBounds_toArray, List.set_cons_zero, List.set_cons_succ]
              have bb2 : Below W6.heap.size W6 W2 := hba.trans (hb2.mono hba.size)
              have hbx : Blk W2 W6.heap.size 9 #[.string (tx x)] := Blk.below (w := (W6.alloc (.cells #[.string (tx x)] 9)).drew) (Blk.new W6 9 #[.string (tx x)]) hb2
              obtain ⟨A3, c3, W3, hr3, ho3, hb3⟩ := str_app (W := W2) (ho2.low hba.size) bb2.size (StrR.blk (l := [x]) hbx hbx.lt rfl) (fun e => by cases e) (by omega) (by simp) (c1 := 1)
              refine wpAny_ready (rs := [9]) (by kernel_rfl) (by simp) ?_
              refine AllReady.cons rfl (fun K hK => ?_) AllReady.nil
              refine run_app (by rfl) _ _ _ _ (by rfl) _ _ _ _ (by rfl) (by rfl) (by rfl) hr3 ?_
              refine hK _ _ ?_
              clear hK K
              simp only [Act.put, List.getElem_toArray, List.getElem_cons_zero, List.getElem_cons_succ, List.setIfInBounds_toArray, List.set_cons_zero, List.set_cons_succ]
              have bb3 : Below W6.heap.size W6 W3 := bb2.trans hb3
              obtain ⟨A4, c4, W4, hr4, ho4, hb4⟩ := str_app (W := W3) ho3 bb3.size ((SD.out.below bb3).mono bb3.size) DF.out (by simp; omega) (by omega)
              rw [show k + [x].length + (i - k) = i + 1 by simp; omega] at hr4 ho4
              refine wpAny_ready (rs := [13]) (by kernel_rfl) (by simp) ?_
              refine AllReady.cons rfl (fun K hK => ?_) AllReady.nil
              refine run_app (by rfl) _ _ _ _ (by rfl) _ _ _ _ (by rfl) (by rfl) (by rfl) hr4 ?_
              refine hK _ _ ?_
              clear hK K
              simp only [Act.put, List.getElem_toArray, List.getElem_cons_zero, List.getElem_cons_succ, List.setIfInBounds_toArray, List.set_cons_zero, List.set_cons_succ]
              refine wpAny_take (i := 14) (v := .slice A4 (i + 1) c4) rfl (by kernel_rfl) (by kernel_rfl) (by kernel_rfl) (fun _ _ _ h => h) (Or.inl ⟨by rfl, fun W => by go_simp⟩) ?_
              simp only [Act.put, List.getElem_toArray, List.getElem_cons_zero, List.getElem_cons_succ, List.setIfInBounds_toArray, List.set_cons_zero, List.set_cons_succ]
              refine wpAny_done (by kernel_rfl) ?_ _
              have BB := Lib.hid (HB.out.trans (hB6.out.mono HB.out.size))
              have HN2 : Hid (StrO w.heap.size W4 A4 (i + 1) c4 (sortV (l.take (i + 1))) ∧ Below w.heap.size w W4) := Lib.hid ⟨by rw [HPUT.out]; rw [List.append_assoc] at ho4; exact ho4.low BB.out.size, BB.out.trans ((bb3.trans hb4).mono BB.out.size)⟩
              clear hr4 ho4 hb4 bb3
              go_wp2_with fail
              go_roundw
              case rel => exact ⟨i + 1, A4, c4, by omega, rfl, by go_num, HN2⟩
              case measure => simp [intOf]; omega
    · obtain rfl : i = n := by omega
      have hfin : Hid (StrO w.heap.size wr Ao i co (sortV l) ∧ Below w.heap.size w wr) := Lib.hid (by
        have := hh.out
        rw [List.take_of_length_le (by have := HN.out; omega)] at this
        exact this)
      clear hh
      go_wp2_with fail
      go_ret
      exact ⟨Ao, co, rfl, hfin⟩

set_option maxRecDepth 100000 in
set_option maxHeartbeats 1000000 in
theorem rGreatest_c (A : Option Addr) (n c : Nat) (l : List (List UInt8)) (w : World) (h : StrR w.heap.size w A n l) (hn : n ≤ 1000) (hl : ∀ x ∈ l, x.length ≤ 3000) (x : List UInt8) (b : Bool) (hF : (match greatO l with | none => ([], false) | some v => (v, true)) = (x, b)) :
    Calls Tryd.prog 9 #[.slice A n c] w fun e w' => e = .returned (.tuple #[.string (tx x), .bool b]) ∧ Hid (Below w.heap.size w w') := by
  have hnl := h.1
  cases l with
  | nil =>
    obtain rfl : n = 0 := hnl
    injection hF with e1 e2
    subst e1 e2
    clear h hl
    go_enter Tryd.func9, Tryd.ntmps9
    go_wp2_with fail
    go_ret2
    exact ⟨rfl, Lib.hid (Below.refl _ _)⟩
  | cons y t =>
    have H := Lib.hid h
    have HL := Lib.hid hl
    have hq := greatO_last (y :: t)
    obtain ⟨m, hm⟩ : ∃ m, n = m + 1 := ⟨t.length, hnl⟩
    subst hm
    have hlen : (sortV (y :: t)).length = m + 1 := by rw [sortV_len]; exact hnl.symm
    rw [List.getLast?_eq_getElem?, hlen, Nat.add_sub_cancel, List.getElem?_eq_getElem (by omega)] at hq
    rw [hq] at hF
    injection hF with e1 e2
    subst e2
    have HX : Hid ((sortV (y :: t))[m]? = some x) := Lib.hid (by rw [List.getElem?_eq_getElem (by omega), e1])
    have HLN := Lib.hid hlen
    have hw1 : wrap64 (((m + 1 : Nat) : Int) - 1) = (m : Int) := by unfold wrap64; omega
    have hne : (((m + 1 : Nat) : Int) == 0) = false := by rw [beq_eq_false_iff_ne]; omega
    clear h hl hq e1 hnl hlen
    go_enter Tryd.func9, Tryd.ntmps9
    go_wp2_with fail
    refine (rSort_c A (m + 1) c (y :: t) _ H.out hn HL.out).mono ?_
    rintro e w1 ⟨A', c', rfl, hh⟩
    obtain ⟨g, o, rfl, hg, hc⟩ := hh.out.1.r.2 m (by have := HLN.out; omega)
    have hxe := HX.out
    rw [List.getElem?_eq_getElem (by have := HLN.out; omega)] at hxe
    injection hxe with hxe
    rw [hxe] at hc
    have B1 := Lib.hid hh.out.2
    clear hh hxe
    go_wp2_with fail
    go_ret2
    exact ⟨rfl, B1⟩
end Go.Proofs.YtjmjklmndokdiaaDoor
