/-
  Contracts of span.Holds, span.mayCome; newelhelp.Plain over spans. Contracts of span.mayCome and span.Parse.
-/
import Derived.Test.YtkphkcpckgdgaaaGreatDoorSa
import Derived.Deep.RegionWith
import Derived.Test.YtkphkcpckgdgaaaGreatDoorSpCut2
namespace Nwl
theorem holds_step {l : List Sp} {v : List UInt8} {k : Nat} (hk : k < l.length) (h : holdsB (l.take k) v = false) (hw : withinB l[k] v = false) : holdsB (l.take (k + 1)) v = false := by
  rw [← List.take_append_getElem hk]
  unfold holdsB at *
  rw [List.any_append, h, List.any_cons, hw]; rfl
theorem holds_hit {l : List Sp} {v : List UInt8} {k : Nat} (hk : k < l.length) (hw : withinB l[k] v = true) : holdsB l v = true := by
  unfold holdsB
  rw [List.any_eq_true]
  exact ⟨l[k], List.getElem_mem hk, hw⟩
theorem come_last {l : List Sp} {s : Sp} (k : Nat) (hk : l.length = k + 1) : comeB l s = (!(l.length == 20 || (l[k]'(by omega)).hi == [] || s.lo == []) && aboveB s.lo (l[k]'(by omega)).hi (!(l[k]'(by omega)).ih || !s.il)) := by
  unfold comeB
  have : l.getLast? = some (l[k]'(by omega)) := by
    rw [List.getLast?_eq_getElem?, show l.length - 1 = k by omega]
    exact List.getElem?_eq_getElem (by omega)
  rw [this]
end Nwl
namespace Go.Proofs.YtkphkcpckgdgaaaGreatDoor
open Nwl
open Go.RowKit Go.Maps
set_option linter.unusedVariables false

set_option maxRecDepth 100000 in
set_option maxHeartbeats 2000000 in
theorem Holds_c (A : Option Addr) (n c : Nat) (l : List Sp) (v : ByteArray) (w : World) (B : Nat) (hB : B ≤ w.heap.size) (h : SpR B w A n l) (hn : n ≤ 100000) (hl : SpShort l) (hv : v.size ≤ 1000) (r : Bool) (hr : holdsB l (bs v) = r) :
    Calls Tryz.prog 25 #[.slice A n c, .string v] w fun e w' => e = .returned (.bool r) ∧ Hid (Below w.heap.size w w') := by
  have H := Lib.hid h
  have HL := Lib.hid hl
  have HR := Lib.hid hr
  have HN : Hid (n = l.length) := Lib.hid h.1
  have HBB := Lib.hid hB
  clear h hl hr hB
  go_enter Tryz.func25, Tryz.ntmps25
  go_wp2_with fail
  refine wp_scope_again 0 (fun a' w' => ∃ (i : Int) (k : Nat) (u6 u7 u8 u9 u10 u11 u12 u13 u14 u15 u16 u17 : Value), a' = { tmps := #[.slice A n c, .string v, undef, undef, .bool false, .int .i64 i, u6, u7, u8, u9, u10, u11, u12, u13, u14, u15, u16, u17], defers := [] } ∧ i = k ∧ k ≤ n ∧ Hid (Below w.heap.size w w' ∧ holdsB (l.take k) (bs v) = false)) (fun a' _ => n - (intOf (a'.tmps.getD 5 undef)).toNat) rfl ?_ ?_
  · rintro a' w1 ⟨i, k, u6, u7, u8, u9, u10, u11, u12, u13, u14, u15, u16, u17, rfl, hik, hk, hh⟩
    by_cases hlt : k < n
    · have hne : ((k : Int) == (n : Int)) = false := by rw [beq_eq_false_iff_ne]; omega
      have hkl : k < l.length := by have := HN.out; omega
      obtain ⟨g, o, rfl, hg, c0, c1, c2, c3⟩ := (H.out.below (hh.out.1.mono HBB.out)).2 k hkl
      obtain ⟨x, hx⟩ : ∃ x, l[k] = x := ⟨_, rfl⟩
      rw [hx] at c0 c1 c2 c3
      have hsx := HL.out x (by rw [← hx]; exact List.getElem_mem hkl)
      obtain ⟨d, hd⟩ : ∃ d, withinB x (bs v) = d := ⟨_, rfl⟩
      have HD := Lib.hid hd
      obtain ⟨hs1, hs2⟩ := hsx
      have HS1 := Lib.hid hs1
      have HS2 := Lib.hid hs2
      cases d with
      | true =>
        have HF : Hid (true = r) := Lib.hid (by rw [← HR.out]; exact (holds_hit hkl (by rw [hx]; exact hd)).symm)
        have HB := Lib.hid hh.out.1
        subst hik
        clear hh hd hx hs1 hs2
        go_wp2_with (go_at_call 39; refine (within_c x v _ HS1.out HS2.out hv true HD.out).mono ?_; rintro e w2 ⟨rfl, b2⟩)
        have HB2 := Lib.hid (HB.out.trans (b2.out.mono HB.out.size))
        simp only [Exit.jump]
        go_ret
        exact ⟨ret_bool HF.out, HB2⟩
      | false =>
        have HN2 := Lib.hid (holds_step hkl hh.out.2 (by rw [hx]; exact hd))
        have HB := Lib.hid hh.out.1
        subst hik
        clear hh hd hx hs1 hs2
        go_wp2_with (go_at_call 39; refine (within_c x v _ HS1.out HS2.out hv false HD.out).mono ?_; rintro e w2 ⟨rfl, b2⟩)
        have HB2 := Lib.hid (HB.out.trans (b2.out.mono HB.out.size))
        go_step3
        refine ⟨rfl, ⟨_, k + 1, _, _, _, _, _, _, _, _, _, _, _, _, rfl, by omega, by omega, Lib.hid ⟨HB2.out, HN2.out⟩⟩, ?_⟩
        simp [intOf]
        omega
    · obtain rfl : k = n := by omega
      have HF : Hid (false = r) := Lib.hid (by
        rw [← HR.out, ← hh.out.2, List.take_of_length_le (by have := HN.out; omega)])
      have HB := Lib.hid hh.out.1
      subst hik
      clear hh
      go_wp2_with fail
      simp only [Exit.jump]
      go_ret
      exact ⟨ret_bool HF.out, HB⟩
  · intro hpass
    go_wp2_with fail
    go_step3
    rename_i hK
    exact hK _ _ (hpass.out _ _ ⟨_, 0, _, _, _, _, _, _, _, _, _, _, _, _, rfl, rfl, by omega, Lib.hid ⟨Below.refl _ _, rfl⟩⟩)

end Go.Proofs.YtkphkcpckgdgaaaGreatDoor

namespace Nwl
open Go
theorem cut_parts (l : List UInt8) : (Lib.cut l [44]).1.length ≤ l.length ∧ (Lib.cut l [44]).2.1.length ≤ l.length := by
  unfold Lib.cut
  split
  · simp
    omega
  · simp
theorem mid_len (l : List UInt8) : (midS l).length ≤ l.length := by
  unfold midS
  simp
  omega
theorem trimB_len (l : List UInt8) : (Lib.trimB l 32).length ≤ l.length := by
  unfold Lib.trimB Lib.trimLeftB Lib.trimRightB
  refine Nat.le_trans (List.dropWhile_sublist _).length_le ?_
  rw [List.length_reverse]
  refine Nat.le_trans (List.dropWhile_sublist _).length_le ?_
  rw [List.length_reverse]
  exact Nat.le_refl _
theorem cutS_facts (l : List UInt8) : (cutS l).1.lo.length ≤ l.length ∧ (cutS l).1.hi.length ≤ l.length ∧ (cutS l).2.1.length ≤ l.length ∧ ∀ c ∈ (cutS l).2.1, c ∈ l := by
  unfold cutS
  split
  · have h1 := cut_parts (midS l)
    have h2 := mid_len l
    refine ⟨?_, ?_, ?_, ?_⟩
    · exact Nat.le_trans (trimB_len _) (by omega)
    · refine Nat.le_trans (trimB_len _) ?_
      split <;> omega
    · show (l.drop _).length ≤ _
      rw [List.length_drop]; omega
    · exact fun c hc => List.mem_of_mem_drop hc
  · exact ⟨Nat.zero_le _, Nat.zero_le _, Nat.zero_le _, fun c hc => by simp at hc⟩
theorem come_room {acc : List Sp} {s : Sp} (h : comeB acc s = true) (hn : acc.length ≤ 20) : acc.length + 1 ≤ 20 := by
  rcases Nat.eq_zero_or_pos acc.length with h0 | h0
  · omega
  · rw [come_last (acc.length - 1) (by omega), Bool.and_eq_true] at h
    have h1 := h.1
    rw [Bool.not_eq_true', Bool.or_eq_false_iff, Bool.or_eq_false_iff, beq_eq_false_iff_ne] at h1
    omega
theorem parse_no {f : Nat} {acc : List Sp} {s : List UInt8} (h : goodS acc s = false) : parseF (f + 1) acc s = none := by
  rw [parseF, h]; rfl
theorem parse_end {f : Nat} {acc : List Sp} {s : List UInt8} (h : goodS acc s = true) (h2 : (cutS s).2.1 = []) : parseF (f + 1) acc s = some (acc ++ [(cutS s).1]) := by
  rw [parseF, h, h2]; rfl
theorem parse_bad {f : Nat} {acc : List Sp} {s r : List UInt8} {c : UInt8} (h : goodS acc s = true) (h2 : (cutS s).2.1 = c :: r) (hc : (c == 44) = false) : parseF (f + 1) acc s = none := by
  rw [parseF, h, h2]; simp [hc]
theorem parse_on {f : Nat} {acc : List Sp} {s r : List UInt8} {c : UInt8} (h : goodS acc s = true) (h2 : (cutS s).2.1 = c :: r) (hc : (c == 44) = true) : parseF (f + 1) acc s = parseF f (acc ++ [(cutS s).1]) r := by
  rw [parseF, h, h2]; simp [hc]
end Nwl
namespace Go.Proofs.YtkphkcpckgdgaaaGreatDoor
open Nwl
open Go.RowKit Go.Maps
set_option linter.unusedVariables false

theorem cut_c (s : ByteArray) (w : World) (hs : s.size ≤ 1000) (one : Sp) (rest : List UInt8) (is : Bool) (h : cutS (bs s) = (one, rest, is)) :
    Calls Tryz.prog 43 #[.string s] w fun e w' => e = .returned (.tuple #[spV one, .string (tx rest), .bool is]) ∧ Hid (Below w.heap.size w w') := by
  cases hok : cutOk (bs s) with
  | false =>
    have he : cutS (bs s) = (⟨[], [], false, false⟩, [], false) := by unfold cutS; rw [hok]; rfl
    rw [he] at h
    injection h with h1 h2
    injection h2 with h2 h3
    subst h1 h2 h3
    exact cut_no s w hs hok
  | true =>
    have hok' := hok
    unfold cutOk at hok'
    rw [Bool.and_eq_true, decide_eq_true_eq] at hok'
    obtain ⟨hR, h0⟩ := hok'
    have h1 := any_pos s hR h0
    have hlt := any_lt (bs s) [93, 41]
    rw [bs_length] at hlt
    obtain ⟨i, hi⟩ : ∃ i : Nat, Lib.indexAny (bs s) [93, 41] = i := ⟨_, (Int.toNat_of_nonneg h0).symm⟩
    rw [hi] at h1 hlt
    have h1' : 1 ≤ i := by omega
    have h2' : i < s.size := by omega
    obtain ⟨⟨x, y, two⟩, hc⟩ : ∃ t, Lib.cut (bs (s.extract 1 i)) [44] = t := ⟨_, rfl⟩
    have hpl := cut_parts (bs (s.extract 1 i))
    rw [hc, bs_length, extract_size s 1 i (by omega)] at hpl
    dsimp only at hpl
    obtain ⟨p, hp⟩ : ∃ p, ((s[0]'(by omega)).toNat == 91) = p := ⟨_, rfl⟩
    obtain ⟨q, hq⟩ : ∃ p, (s[i].toNat == 93) = p := ⟨_, rfl⟩
    have hp' : (((s[0]'(by omega)).toNat : Int) == 91) = p := by
      rw [← hp, Bool.eq_iff_iff, beq_iff_eq, beq_iff_eq]; omega
    have hq' : ((s[i].toNat : Int) == 93) = q := by
      rw [← hq, Bool.eq_iff_iff, beq_iff_eq, beq_iff_eq]; omega
    have he := cut_yes_eq s i hi hR h1' h2' x y two p q hc hp hq
    rw [he] at h
    injection h with e1 h2
    injection h2 with e2 e3
    subst e1 e2 e3
    rw [tx_bs]
    cases two with
    | true => exact cut_yt s w hs i hi hR h1' h2' x y p q (by omega) (by omega) hc hp' hq'
    | false =>
      cases p with
      | false => exact cut_yf0 s w hs i hi hR h1' h2' x y q (by omega) hc hp' hq'
      | true => exact cut_yf1 s w hs i hi hR h1' h2' x y q (by omega) hc hp' hq'

set_option maxRecDepth 100000 in
set_option maxHeartbeats 2000000 in
theorem mayCome_w (A : Option Addr) (n c : Nat) (l : List Sp) (a b : ByteArray) (p q : Bool) (w : World) (B : Nat) (hB : B ≤ w.heap.size) (h : SpR B w A n l) (hn : n ≤ 20) (hl : SpShort l) (ha : a.size ≤ 1000) (hb : b.size ≤ 1000) (r : Bool) (hr : comeB l ⟨bs a, bs b, p, q⟩ = r) :
    Calls Tryz.prog 45 #[.slice A n c, .agg #[.string a, .string b, .bool p, .bool q]] w fun e w' => e = .returned (.bool r) ∧ Hid (Below w.heap.size w w') := by
  have B0 : Hid (Below w.heap.size w (w.alloc (.cells #[.string a, .string b, .bool p, .bool q] 27))) := Lib.hid ((Below.refl _ _).alloc (Nat.le_refl _) _)
  rcases Nat.eq_zero_or_pos n with h0 | h0
  · subst h0
    obtain rfl : l = [] := List.eq_nil_of_length_eq_zero h.1.symm
    obtain rfl : true = r := hr
    clear h hl
    go_enter Tryz.func45, Tryz.ntmps45
    go_wp2_with fail
    go_ret
    exact ⟨rfl, B0⟩
  · obtain ⟨k, rfl⟩ : ∃ k, n = k + 1 := ⟨n - 1, by omega⟩
    have hkl : k < l.length := by have := h.1; omega
    have hr2 := (come_last (s := ⟨bs a, bs b, p, q⟩) k h.1.symm).symm.trans hr
    obtain ⟨g, o, rfl, hg, c0, c1, c2, c3⟩ := (h.below (B0.out.mono hB)).2 k hkl
    have hsx := hl _ (List.getElem_mem hkl)
    obtain ⟨a1, ha1⟩ : ∃ x, tx l[k].lo = x := ⟨_, rfl⟩
    obtain ⟨b1, hb1⟩ : ∃ x, tx l[k].hi = x := ⟨_, rfl⟩
    obtain ⟨p1, hp1⟩ : ∃ x, l[k].il = x := ⟨_, rfl⟩
    obtain ⟨q1, hq1⟩ : ∃ x, l[k].ih = x := ⟨_, rfl⟩
    have hbb : l[k].hi = bs b1 := by rw [← hb1, bs_tx]
    have hb1s : b1.size ≤ 1000 := by rw [← hb1, tx_size]; exact hsx.2
    rw [ha1] at c0
    rw [hb1] at c1
    rw [hp1] at c2
    rw [hq1] at c3
    rw [hbb, hq1, ← h.1] at hr2
    clear hsx ha1 hb1 hp1 hq1 hbb hr h hl hB
    obtain ⟨k0, k1, k2, k3⟩ := box4 w (.string a) (.string b) (.bool p) (.bool q)
    have X1 := Lib.hid ((Blk.new w 27 #[.string a, .string b, .bool p, .bool q]).alloc (.cells #[.string a1, .string b1, .bool p1, .bool q1] 27))
    have hk1 : IntKind.i64.wrap (((k + 1 : Nat) : Int) - 1) = k := by rw [wrap_i1 (by omega) (by omega)]; omega
    have hk2 : IntKind.i64.wrap ((k : Int) + 1 - 1) = k := by rw [wrap_i1 (by omega) (by omega)]; omega
    have B1 := Lib.hid (B0.out.alloc B0.out.size (.cells #[.string a1, .string b1, .bool p1, .bool q1] 27))
    have hz : (((k : Int) + 1) == 0) = false := by rw [beq_eq_false_iff_ne]; omega
    by_cases h20 : k = 19
    · subst h20
      obtain rfl : false = r := by rw [← hr2]; rfl
      clear hr2 hk1 hk2
      go_enter Tryz.func45, Tryz.ntmps45
      go_wp2_with fail
      go_ret
      exact ⟨rfl, B1⟩
    · have ht : (((k : Int) + 1) == 20) = false := by rw [beq_eq_false_iff_ne]; omega
      have ht2 : (k + 1 == 20) = false := by rw [beq_eq_false_iff_ne]; omega
      rw [ht2, Bool.false_or] at hr2
      by_cases e1 : b1.size = 0
      · have he : b1.toList = [] := toList_nil_of b1 e1
        obtain rfl : false = r := by rw [← hr2, bs_nil e1]; rfl
        clear hr2 e1 ht2 h20
        go_enter Tryz.func45, Tryz.ntmps45
        go_wp2_with fail
        go_ret
        exact ⟨rfl, B1⟩
      · have hs1 : 0 < b1.size := by omega
        have hne1 : (b1.toList == []) = false := by rw [toList_bs]; exact bs_beq_nil hs1
        rw [bs_beq_nil hs1, Bool.false_or] at hr2
        have j0 := X1.out.cell 0
        have j2 := X1.out.cell 2
        simp at j0 j2
        by_cases e2 : a.size = 0
        · have he : a.toList = [] := toList_nil_of a e2
          obtain rfl : false = r := by rw [← hr2, bs_nil e2]; rfl
          clear hr2 e1 ht2 h20 e2
          go_enter Tryz.func45, Tryz.ntmps45
          go_wp2_with fail
          go_ret
          exact ⟨rfl, B1⟩
        · have hs2 : 0 < a.size := by omega
          have hne2 : (a.toList == []) = false := by rw [toList_bs]; exact bs_beq_nil hs2
          rw [bs_beq_nil hs2] at hr2
          have HR : Hid (aboveB (bs a) (bs b1) (!q1 || !p) = r) := Lib.hid hr2
          clear hr2 e1 ht2 h20 e2
          cases q1
          · go_enter Tryz.func45, Tryz.ntmps45
            go_wp2_with fail
            refine (above_c a b1 true _ ha hb1s _ HR.out).mono ?_
            rintro e w1 ⟨rfl, b3⟩
            have B2 := Lib.hid (B1.out.trans (b3.out.mono B1.out.size))
            go_wp2_with fail
            go_ret
            exact ⟨rfl, B2⟩
          · go_enter Tryz.func45, Tryz.ntmps45
            go_wp2_with fail
            refine (above_c a b1 (!p) _ ha hb1s _ HR.out).mono ?_
            rintro e w1 ⟨rfl, b3⟩
            have B2 := Lib.hid (B1.out.trans (b3.out.mono B1.out.size))
            go_wp2_with fail
            go_ret
            exact ⟨rfl, B2⟩

theorem mayCome_c (A : Option Addr) (n c : Nat) (l : List Sp) (s : Sp) (w : World) (B : Nat) (hB : B ≤ w.heap.size) (h : SpR B w A n l) (hn : n ≤ 20) (hl : SpShort l) (ha : s.lo.length ≤ 1000) (hb : s.hi.length ≤ 1000) (r : Bool) (hr : comeB l s = r) :
    Calls Tryz.prog 45 #[.slice A n c, spV s] w fun e w' => e = .returned (.bool r) ∧ Hid (Below w.heap.size w w') :=
  mayCome_w A n c l (tx s.lo) (tx s.hi) s.il s.ih w B hB h hn hl (by rw [tx_size]; exact ha) (by rw [tx_size]; exact hb) r (by rw [bs_tx, bs_tx]; exact hr)
end Go.Proofs.YtkphkcpckgdgaaaGreatDoor
