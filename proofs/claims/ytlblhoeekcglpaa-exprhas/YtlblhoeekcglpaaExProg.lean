/-
  Contracts of expr.Has, cutName, cut, written.
-/
import Derived.Test.YtlblhoeekcglpaaExAny
import Derived.Lib.CutLaws
import Derived.Deep.CutRange
namespace Nwl
open Go
theorem pre_end (l : List UInt8) : Lib.hasPrefix l [125] = (l[0]? == some 125) := by
  unfold Lib.hasPrefix
  cases l with
  | nil => rfl
  | cons a l =>
    simp only [List.isPrefixOf, Bool.and_true]
    show (125 == a) = (some a == some 125)
    rw [Bool.eq_iff_iff, beq_iff_eq, beq_iff_eq, Option.some_inj]
    exact eq_comm
theorem trim_end (l : List UInt8) (h : (l[0]? == some 125) = true) : Lib.trimPrefix l [125] = l.drop 1 := by
  unfold Lib.trimPrefix
  rw [pre_end, h]; rfl
theorem tx_ext (l : List UInt8) (i j : Nat) : (tx l).extract i j = tx ((l.take j).drop i) := by
  apply bs_inj
  rw [bs_tx, bs_extract, bs_tx, List.drop_take]
end Nwl
namespace Go.Proofs.Ytlblhoeekcglpaa
open Nwl
open Go.RowKit Go.Maps
set_option linter.unusedVariables false
set_option linter.unusedSimpArgs false

/-- the box of a piece under way -/
def PB (w W : World) (v0 v1 : Value) : Prop := Blk W w.heap.size 29 #[v0, v1] ∧ Below w.heap.size w W
theorem PB.new (w : World) (v0 v1 : Value) : PB w (w.alloc (.cells #[v0, v1] 29)) v0 v1 := ⟨Blk.new _ _ _, (Below.refl _ _).alloc (Nat.le_refl _) _⟩
theorem PB.step {w W W' : World} {v0 v1 : Value} (h : Hid (PB w W v0 v1)) (hb : Hid (Below W.heap.size W W')) : Hid (PB w W' v0 v1) := Lib.hid ⟨h.out.1.below hb.out, h.out.2.trans (hb.out.mono h.out.2.size)⟩
theorem PB.rd {w W : World} {v0 v1 : Value} (h : Hid (PB w W v0 v1)) : W.cell? ⟨w.heap.size, 0, none⟩ = some v0 ∧ W.cell? ⟨w.heap.size, 1, none⟩ = some v1 := ⟨h.out.1.cell 0, h.out.1.cell 1⟩
theorem PB.fz {w W : World} {v0 v1 : Value} (h : Hid (PB w W v0 v1)) : W.frozen? ⟨w.heap.size, 0, none⟩ = false ∧ W.frozen? ⟨w.heap.size, 1, none⟩ = false := ⟨h.out.1.frozen 0, h.out.1.frozen 1⟩
theorem PB.put {w W : World} {v0 v1 : Value} (h : Hid (PB w W v0 v1)) (u0 u1 : Value) : Hid (PB w ((W.setCell ⟨w.heap.size, 0, none⟩ u0).setCell ⟨w.heap.size, 1, none⟩ u1) u0 u1) := Lib.hid ⟨(h.out.1.set 0 u0).set 1 u1, (h.out.2.setCell (Nat.le_refl _) _).setCell (Nat.le_refl _) _⟩
theorem pblk_same {w : World} {b i : Nat} {t : TypeId} {cs : Array Value} {u : Value} (h : Blk w b t cs) (hu : cs[i]? = some u) : w.setCell ⟨b, i, none⟩ u = w := by
  unfold Blk at h
  have e : (w.setCell ⟨b, i, none⟩ u).heap = w.heap := by
    apply Array.ext_getElem?
    intro j
    by_cases hj : j = b
    · subst hj
      have := Blk.set (w := w) (b := j) (t := t) (cs := cs) h i u
      unfold Blk at this
      rw [this, h]
      congr 2
      apply Array.ext_getElem?
      intro k
      rw [Array.getElem?_setIfInBounds]
      split
      · rename_i hk
        subst hk
        obtain ⟨hi, he⟩ := Array.getElem?_eq_some_iff.1 hu
        rw [if_pos hi]; exact hu.symm
      · rfl
    · exact Below.heap_setCell w ⟨b, i, none⟩ u j hj
  calc w.setCell ⟨b, i, none⟩ u = { w with heap := (w.setCell ⟨b, i, none⟩ u).heap } := rfl
    _ = w := by rw [e]
theorem PB.eqs {w W : World} {v0 v1 : Value} (h : Hid (PB w W v0 v1)) : W.setCell ⟨w.heap.size, 0, none⟩ v0 = W ∧ W.setCell ⟨w.heap.size, 1, none⟩ v1 = W := ⟨pblk_same h.out.1 rfl, pblk_same h.out.1 rfl⟩
/-- a piece as a value -/
abbrev pcV (b : Bool) (t : List UInt8) : Value := .agg #[.bool b, .string (tx t)]

set_option maxRecDepth 100000 in
theorem EHas_c (l : List UInt8) (w : World) (hl : l.length ≤ 100000) (hg : GlobE w) (r : Bool) (hr : hasE l = r) :
    Calls Try.prog 14 #[.string (tx l)] w fun e w' => e = .returned (.bool r) ∧ w = w' := by
  obtain ⟨m, hm⟩ := hg
  have hs : (tx l).size < 4294967281 := by rw [tx_size]; omega
  have HR : Hid (Lib.contains (tx l).data.toList (⟨#[36, 123]⟩ : ByteArray).data.toList = r) := Lib.hid ((contains_begin l).trans hr)
  have HM := Lib.hid hm
  clear hr hm
  go_enter Try.func14, Try.ntmps14
  go_wp2_with (go_at_call 25; refine (Try.strings_Contains _ _ m _ hs HM.out).mono ?_; rintro e w' ⟨rfl, hw⟩; rw [hw, HR.out])
  go_ret
  exact ⟨rfl, rfl⟩

theorem PreEnd_c (s : ByteArray) (w : World) (x : List UInt8) (r : Bool) (h1 : Lib.trimPrefix (bs s) [125] = x) (h2 : Lib.hasPrefix (bs s) [125] = r) :
    Calls Try.prog 26 #[.string s, .string ⟨#[125]⟩] w fun e w' => e = .returned (.tuple #[.string (tx x), .bool r]) ∧ w = w' := by
  subst h1 h2
  exact (Try.strings_CutPrefix s ⟨#[125]⟩ w).mono fun e w' ⟨a, b⟩ => ⟨a, b.symm⟩
theorem PreBegin_c (s : ByteArray) (w : World) (x : List UInt8) (r : Bool) (h1 : Lib.trimPrefix (bs s) [36, 123] = x) (h2 : Lib.hasPrefix (bs s) [36, 123] = r) :
    Calls Try.prog 26 #[.string s, .string ⟨#[36, 123]⟩] w fun e w' => e = .returned (.tuple #[.string (tx x), .bool r]) ∧ w = w' := by
  subst h1 h2
  exact (Try.strings_CutPrefix s ⟨#[36, 123]⟩ w).mono fun e w' ⟨a, b⟩ => ⟨a, b.symm⟩
theorem CutB_c (s : ByteArray) (w : World) (hs : s.size ≤ 100000) (hg : GlobE w) (x y : List UInt8) (f : Bool) (h : Lib.cut (bs s) [36, 123] = (x, y, f)) :
    Calls Try.prog 28 #[.string s, .string ⟨#[36, 123]⟩] w fun e w' => e = .returned (.tuple #[.string (tx x), .string (tx y), .bool f]) ∧ Hid (Below w.heap.size w w') := by
  obtain ⟨m, hm⟩ := hg
  refine (Try.strings_Cut s ⟨#[36, 123]⟩ m w (by omega) hm).mono ?_
  rintro e w' ⟨he, n, rfl⟩
  refine ⟨?_, Lib.hid (below_dn (Below.refl _ _) n)⟩
  rw [he]
  have hc : Lib.cut s.data.toList (⟨#[36, 123]⟩ : ByteArray).data.toList = (x, y, f) := h
  rw [hc]; rfl

set_option maxRecDepth 100000 in
set_option maxHeartbeats 4000000 in
theorem cutName_no (l : List UInt8) (w : World) (hl : l.length ≤ 100000) (h : nameOk l = false) :
    Calls Try.prog 27 #[.string (tx l)] w fun e w' => e = .returned (.tuple #[pcV false [], .string ⟨#[]⟩, .bool false]) ∧ Hid (Below w.heap.size w w') := by
  have hs : (tx l).size ≤ 100000 := by rw [tx_size]; exact hl
  have X0 := Lib.hid (PB.new w (.bool false) (.string ⟨#[]⟩))
  rcases nameOk_any h with h1 | h1 | ⟨h1, h2⟩
  · have HF : Hid (Lib.indexAny (bs (tx l)) [36, 123, 125] = -1) := Lib.hid (by rw [bs_tx, any_name, if_neg h1])
    clear h h1
    go_enter Try.func27, Try.ntmps27
    go_wp2_with fail
    refine (anyE_c _ _ hs _ HF.out).mono ?_
    rintro e w1 ⟨rfl, b1⟩
    have X1 := PB.step X0 b1
    obtain ⟨k0, k1⟩ := PB.rd X1
    obtain ⟨f0, f1⟩ := PB.fz X1
    obtain ⟨e0, e1⟩ := PB.eqs X1
    go_wp2_with fail
    refine bodyPost_ret (v := .tuple #[pcV false [], .string ⟨#[]⟩, .bool false]) ?_ rfl ⟨rfl, Lib.hid X1.out.2⟩
    simp [results, Try.results27, go_sem, k0, k1]
    rfl
  · have HF : Hid (Lib.indexAny (bs (tx l)) [36, 123, 125] = 0 ∨ Lib.indexAny (bs (tx l)) [36, 123, 125] = -1) := Lib.hid (by
      rw [bs_tx, any_name, h1]
      by_cases h' : 0 < l.length
      · rw [if_pos h']; exact .inl rfl
      · rw [if_neg h']; exact .inr rfl)
    clear h h1
    rcases HF.out with hF | hF
    all_goals
      have HG := Lib.hid hF
      clear hF HF
      go_enter Try.func27, Try.ntmps27
      go_wp2_with fail
      refine (anyE_c _ _ hs _ HG.out).mono ?_
      rintro e w1 ⟨rfl, b1⟩
      have X1 := PB.step X0 b1
      obtain ⟨k0, k1⟩ := PB.rd X1
      obtain ⟨f0, f1⟩ := PB.fz X1
      obtain ⟨e0, e1⟩ := PB.eqs X1
      go_wp2_with fail
      refine bodyPost_ret (v := .tuple #[pcV false [], .string ⟨#[]⟩, .bool false]) ?_ rfl ⟨rfl, Lib.hid X1.out.2⟩
      simp [results, Try.results27, go_sem, k0, k1]
      rfl
  · obtain ⟨n, hn⟩ : ∃ n, nameN l = n := ⟨_, rfl⟩
    rw [hn] at h1 h2
    by_cases h0 : n = 0
    · subst h0
      have HF : Hid (Lib.indexAny (bs (tx l)) [36, 123, 125] = 0) := Lib.hid (by
        rw [bs_tx, any_name, hn, if_pos h1]; rfl)
      clear h h1 h2 hn
      go_enter Try.func27, Try.ntmps27
      go_wp2_with fail
      refine (anyE_c _ _ hs _ HF.out).mono ?_
      rintro e w1 ⟨rfl, b1⟩
      have X1 := PB.step X0 b1
      obtain ⟨k0, k1⟩ := PB.rd X1
      obtain ⟨f0, f1⟩ := PB.fz X1
      obtain ⟨e0, e1⟩ := PB.eqs X1
      go_wp2_with fail
      refine bodyPost_ret (v := .tuple #[pcV false [], .string ⟨#[]⟩, .bool false]) ?_ rfl ⟨rfl, Lib.hid X1.out.2⟩
      simp [results, Try.results27, go_sem, k0, k1]
      rfl
    · have HF : Hid (Lib.indexAny (bs (tx l)) [36, 123, 125] = (n : Int)) := Lib.hid (by
        rw [bs_tx, any_name, hn, if_pos h1])
      have hq : bs ((tx l).extract n (tx l).size) = l.drop n := by
        rw [tx_ext, bs_tx, tx_size, List.take_length]
      have H2 : Hid (Lib.hasPrefix (bs ((tx l).extract n (tx l).size)) [125] = false) := Lib.hid (by
        rw [hq, pre_end, List.getElem?_drop, Nat.add_zero, beq_eq_false_iff_ne]; exact h2)
      obtain ⟨x, hx⟩ : ∃ x, Lib.trimPrefix (bs ((tx l).extract n (tx l).size)) [125] = x := ⟨_, rfl⟩
      have H1 := Lib.hid hx
      have hns : (n : Int) ≤ ((tx l).size : Int) := by rw [tx_size]; omega
      have hn1 : ¬ (n : Int) < 1 := by omega
      clear h h1 h2 hn hq hx h0
      go_enter Try.func27, Try.ntmps27
      go_wp2_with fail
      refine (anyE_c _ _ hs _ HF.out).mono ?_
      rintro e w1 ⟨rfl, b1⟩
      have X1 := PB.step X0 b1
      go_wp2_with fail
      refine (PreEnd_c _ _ x false H1.out H2.out).mono ?_
      rintro e w' ⟨rfl, rfl⟩
      obtain ⟨k0, k1⟩ := PB.rd X1
      obtain ⟨f0, f1⟩ := PB.fz X1
      obtain ⟨e0, e1⟩ := PB.eqs X1
      go_wp2_with fail
      refine bodyPost_ret (v := .tuple #[pcV false [], .string ⟨#[]⟩, .bool false]) ?_ rfl ⟨rfl, Lib.hid X1.out.2⟩
      simp [results, Try.results27, go_sem, k0, k1]
      rfl

set_option maxRecDepth 100000 in
set_option maxHeartbeats 4000000 in
theorem cutName_yes (l : List UInt8) (w : World) (hl : l.length ≤ 100000) (h : nameOk l = true) (T R : List UInt8) (hT : l.take (nameN l) = T) (hR : l.drop (nameN l + 1) = R) :
    Calls Try.prog 27 #[.string (tx l)] w fun e w' => e = .returned (.tuple #[pcV true T, .string (tx R), .bool true]) ∧ Hid (Below w.heap.size w w') := by
  have hs : (tx l).size ≤ 100000 := by rw [tx_size]; exact hl
  have X0 := Lib.hid (PB.new w (.bool false) (.string ⟨#[]⟩))
  obtain ⟨h1, h0, h2⟩ := nameOk_lt h
  obtain ⟨n, hn⟩ : ∃ n, nameN l = n := ⟨_, rfl⟩
  rw [hn] at h1 h0 h2 hT hR
  have HF : Hid (Lib.indexAny (bs (tx l)) [36, 123, 125] = (n : Int)) := Lib.hid (by
    rw [bs_tx, any_name, hn, if_pos h1])
  have hq : bs ((tx l).extract n (tx l).size) = l.drop n := by
    rw [tx_ext, bs_tx, tx_size, List.take_length]
  have hq0 : ((l.drop n)[0]? == some 125) = true := by rw [List.getElem?_drop, Nat.add_zero, h2]; rfl
  have H2 : Hid (Lib.hasPrefix (bs ((tx l).extract n (tx l).size)) [125] = true) := Lib.hid (by
    rw [hq, pre_end]; exact hq0)
  have H1 : Hid (Lib.trimPrefix (bs ((tx l).extract n (tx l).size)) [125] = R) := Lib.hid (by
    rw [hq, trim_end _ hq0, List.drop_drop]; exact hR)
  have HT : Hid ((tx l).extract 0 n = tx T) := Lib.hid (by rw [tx_ext, List.drop_zero, hT])
  have hns : (n : Int) ≤ ((tx l).size : Int) := by rw [tx_size]; omega
  have hn1 : ¬ (n : Int) < 1 := by omega
  clear h h1 h2 hn hq hq0 h0 hT hR
  go_enter Try.func27, Try.ntmps27
  go_wp2_with fail
  refine (anyE_c _ _ hs _ HF.out).mono ?_
  rintro e w1 ⟨rfl, b1⟩
  have X1 := PB.step X0 b1
  go_wp2_with fail
  refine (PreEnd_c _ _ R true H1.out H2.out).mono ?_
  rintro e w' ⟨rfl, rfl⟩
  obtain ⟨k0, k1⟩ := PB.rd X1
  obtain ⟨f0, f1⟩ := PB.fz X1
  have X2 := PB.put X1 (.bool true) (.string ((tx l).extract 0 n))
  obtain ⟨j0, j1⟩ := PB.rd X2
  simp only [HT.out] at j0 j1
  go_wp2_with fail
  refine bodyPost_ret (v := .tuple #[pcV true T, .string (tx R), .bool true]) ?_ rfl ⟨rfl, Lib.hid X2.out.2⟩
  simp [results, Try.results27, go_sem, j0, j1, HT.out]

set_option maxRecDepth 100000 in
set_option maxHeartbeats 4000000 in
theorem cut_bad (l : List UInt8) (w : World) (hl : l.length ≤ 100000) (h : cutP l = none) :
    Calls Try.prog 18 #[.string (tx l)] w fun e w' => e = .returned (.tuple #[pcV false [], .string ⟨#[]⟩, .bool false]) ∧ Hid (Below w.heap.size w w') := by
  have X0 := Lib.hid (PB.new w (.bool false) (.string ⟨#[]⟩))
  have hb : beginB l = true := by
    cases e : beginB l with
    | true => rfl
    | false => unfold cutP at h; rw [e] at h; simp at h
  have hno : nameOk (l.drop 2) = false := by
    unfold cutP at h
    rw [hb, if_pos rfl] at h
    cases e : nameOk (l.drop 2) with
    | false => rfl
    | true => rw [e] at h; simp at h
  have H1 : Hid (Lib.trimPrefix (bs (tx l)) [36, 123] = l.drop 2) := Lib.hid (by rw [bs_tx, trim_begin, hb]; rfl)
  have H2 : Hid (Lib.hasPrefix (bs (tx l)) [36, 123] = true) := Lib.hid (by rw [bs_tx, pre_begin, hb])
  have HC := Lib.hid (fun W => cutName_no (l.drop 2) W (by rw [List.length_drop]; omega) hno)
  generalize l.drop 2 = D at *
  clear h hb hno
  go_enter Try.func18, Try.ntmps18
  go_wp2_with fail
  refine (PreBegin_c _ _ D true H1.out H2.out).mono ?_
  rintro e w' ⟨rfl, rfl⟩
  go_wp2_with fail
  refine (HC.out _).mono ?_
  rintro e w1 ⟨rfl, b1⟩
  have X1 := PB.step X0 b1
  obtain ⟨k0, k1⟩ := PB.rd X1
  obtain ⟨f0, f1⟩ := PB.fz X1
  obtain ⟨e0, e1⟩ := PB.eqs X1
  have e2 : w1.setCell ⟨w.heap.size, 1, none⟩ (.string (tx [])) = w1 := e1
  go_wp2_with fail
  refine bodyPost_ret (v := .tuple #[pcV false [], .string ⟨#[]⟩, .bool false]) ?_ rfl ⟨rfl, Lib.hid X1.out.2⟩
  simp [results, Try.results18, go_sem, k0, k1]
  rfl

set_option maxRecDepth 100000 in
set_option maxHeartbeats 4000000 in
theorem cut_good (l : List UInt8) (w : World) (hl : l.length ≤ 100000) (hg : GlobE w) (p : Pc) (r : List UInt8) (h : cutP l = some (p, r)) :
    Calls Try.prog 18 #[.string (tx l)] w fun e w' => e = .returned (.tuple #[pcV p.nm p.t, .string (tx r), .bool true]) ∧ Hid (Below w.heap.size w w') := by
  have X0 := Lib.hid (PB.new w (.bool false) (.string ⟨#[]⟩))
  unfold cutP at h
  cases hb : beginB l with
  | true =>
    rw [hb, if_pos rfl] at h
    cases hn : nameOk (l.drop 2) with
    | false => rw [hn] at h; simp at h
    | true =>
      rw [hn, if_pos rfl] at h
      injection h with h
      injection h with h1 h2
      subst h1
      have H1 : Hid (Lib.trimPrefix (bs (tx l)) [36, 123] = l.drop 2) := Lib.hid (by rw [bs_tx, trim_begin, hb]; rfl)
      have H2 : Hid (Lib.hasPrefix (bs (tx l)) [36, 123] = true) := Lib.hid (by rw [bs_tx, pre_begin, hb])
      obtain ⟨T, hT⟩ : ∃ T, (l.drop 2).take (nameN (l.drop 2)) = T := ⟨_, rfl⟩
      have HC := Lib.hid (fun W => cutName_yes (l.drop 2) W (by rw [List.length_drop]; omega) hn T r hT h2)
      rw [hT]
      clear hT h2 hn hb
      generalize l.drop 2 = D at *
      go_enter Try.func18, Try.ntmps18
      go_wp2_with fail
      refine (PreBegin_c _ _ D true H1.out H2.out).mono ?_
      rintro e w' ⟨rfl, rfl⟩
      go_wp2_with fail
      refine (HC.out _).mono ?_
      rintro e w1 ⟨rfl, b1⟩
      have X1 := PB.step X0 b1
      obtain ⟨k0, k1⟩ := PB.rd X1
      obtain ⟨f0, f1⟩ := PB.fz X1
      have X2 := PB.put X1 (.bool true) (.string (tx T))
      obtain ⟨j0, j1⟩ := PB.rd X2
      go_wp2_with fail
      refine bodyPost_ret (v := .tuple #[pcV true T, .string (tx r), .bool true]) ?_ rfl ⟨rfl, Lib.hid X2.out.2⟩
      simp [results, Try.results18, go_sem, j0, j1]
  | false =>
    rw [hb, if_neg (by decide)] at h
    injection h with h
    injection h with h1 h2
    subst h1
    have H1 : Hid (Lib.trimPrefix (bs (tx l)) [36, 123] = l) := Lib.hid (by rw [bs_tx, trim_begin, hb]; rfl)
    have H2 : Hid (Lib.hasPrefix (bs (tx l)) [36, 123] = false) := Lib.hid (by rw [bs_tx, pre_begin, hb])
    obtain ⟨x, y, f, hc⟩ : ∃ x y f, Lib.cut (bs (tx l)) [36, 123] = (x, y, f) := ⟨_, _, _, rfl⟩
    have hx : l.take (textN l) = x := by
      have := cut_begin l
      rw [bs_tx] at hc
      rw [hc] at this
      exact this.symm
    rw [hx]
    have hxl : x.length = textN l := by rw [← hx, List.length_take]; have := textN_le l; omega
    have hs : (tx l).size ≤ 100000 := by rw [tx_size]; exact hl
    have HR : Hid ((tx l).extract (tx x).size (tx l).size = tx r) := Lib.hid (by
      rw [tx_ext, tx_size, tx_size, List.take_length, hxl, h2])
    have hle : ((tx x).size : Int) ≤ ((tx l).size : Int) := by
      rw [tx_size, tx_size, hxl]
      have := textN_le l
      omega
    have HC := Lib.hid hc
    have HG := Lib.hid hg
    clear hc hx hxl h2 hb hg
    go_enter Try.func18, Try.ntmps18
    go_wp2_with fail
    refine (PreBegin_c _ _ l false H1.out H2.out).mono ?_
    rintro e w' ⟨rfl, rfl⟩
    go_wp2_with fail
    refine (CutB_c _ _ hs ?_ x y f HC.out).mono ?_
    · exact HG.out.below ((Below.refl _ _).alloc (Nat.le_refl _) _)
    rintro e w1 ⟨rfl, b1⟩
    have X1 := PB.step X0 b1
    obtain ⟨k0, k1⟩ := PB.rd X1
    obtain ⟨f0, f1⟩ := PB.fz X1
    obtain ⟨e0, e1⟩ := PB.eqs X1
    have X3 : Hid (PB w (w1.setCell ⟨w.heap.size, 1, none⟩ (.string (tx x))).drew (.bool false) (.string (tx x))) := Lib.hid ⟨X1.out.1.set 1 (.string (tx x)), (X1.out.2.setCell (Nat.le_refl _) _).drew⟩
    obtain ⟨j0, j1⟩ := PB.rd X3
    go_wp2_with fail
    go_region
    all_goals (
      go_wp2_with fail
      refine bodyPost_ret (v := .tuple #[pcV false x, .string (tx r), .bool true]) ?_ rfl ⟨rfl, ?_⟩
      · simp [results, Try.results18, go_sem, k0, j0, j1, HR.out]
      · exact Lib.hid X3.out.2)
theorem wr_len (p : Pc) : (writE p).length ≤ p.t.length + 3 := by
  unfold writE
  split
  · simp
  · omega
set_option maxRecDepth 100000 in
theorem written_c (b : Bool) (t : List UInt8) (w : World) (ht : t.length ≤ 1000000000000000) :
    Calls Try.prog 24 #[pcV b t] w fun e w' => e = .returned (.string (tx (writE ⟨b, t⟩))) ∧ Hid (Below w.heap.size w w') := by
  have BB := Lib.hid ((Below.refl w.heap.size w).alloc (Nat.le_refl _) (.cells #[.bool b, .string (tx t)] 29))
  have k1 : ¬ 9223372036854775807 < 2 + (tx t).size := by rw [tx_size]; omega
  have k2 : ¬ 9223372036854775807 < 2 + (tx t).size + 1 := by rw [tx_size]; omega
  cases b with
  | true =>
    have HF : Hid (((⟨#[36, 123]⟩ : ByteArray) ++ tx t) ++ ⟨#[125]⟩ = tx (writE ⟨true, t⟩)) := Lib.hid (bs_inj (by rw [bs_append, bs_append]; rfl))
    go_enter Try.func24, Try.ntmps24
    go_wp2_with fail
    go_ret
    exact ⟨ret_str HF.out, BB⟩
  | false =>
    go_enter Try.func24, Try.ntmps24
    go_wp2_with fail
    go_ret
    exact ⟨rfl, BB⟩
end Go.Proofs.Ytlblhoeekcglpaa
