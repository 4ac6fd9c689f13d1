/-
  Layer 4: the builder's WriteByte, and the contract of markup.Escape.
-/
import Derived.Test.YtdcgeobimenlpaaGnBuild
import Derived.Test.YtdcgeobimenlpaaGnMem
import Derived.Test.YtdcgeobimenlpaaEsMath
namespace Nwl
open Go
theorem esc1_plain {c : UInt8} (h1 : c ≠ 38) (h2 : c ≠ 60) (h3 : c ≠ 62) (h4 : c ≠ 34) : esc1 c = [c] := by
  unfold esc1
  rw [if_neg h1, if_neg h2, if_neg h3, if_neg h4]
end Nwl
namespace Go.Proofs.Ytdcgeobimenlpaa
open Nwl
open Go.RowKit Go.Maps
set_option linter.unusedVariables false
theorem one_new (w : World) (x : Value) (t : TypeId) : ∀ j u, [x][j]? = some u → (w.alloc (.cells #[x] t)).cell? ((⟨w.heap.size, 0, none⟩ : Addr).add j) = some u := by
  intro j u hj
  match j, hj with
  | 0, hj => simp at hj; subst hj; simp [Addr.add]
  | j + 1, hj => simp at hj

set_option maxHeartbeats 2000000 in
set_option maxRecDepth 100000 in
theorem WriteByte_c (B b : Nat) (l : List UInt8) (c : UInt8) (w : World) (h : Bld B b l w) (hlen : l.length + 1 ≤ 140737488355328) (hBw : B ≤ w.heap.size) :
    Calls Try.prog 16 #[.pointer (some ⟨b, 0, none⟩), .int .u8 (c.toNat : Int)] w fun e w' => e = .returned .nilIface ∧ Bld B b (l ++ [c]) w' ∧ Below B w w' := by
  have hbl : (Lib.byteCells l).length = l.length := Lib.byteCells_length l
  unfold Bld at h ⊢
  rw [Lib.byteCells_append]
  have hss : Lib.byteCells [c] = [.int .u8 (c.toNat : Int)] := rfl
  rw [hss]
  generalize Lib.byteCells l = cs at h hbl ⊢
  rw [← hbl] at hlen
  clear hbl
  obtain ⟨i0, hi, hz0, hz1, hz2⟩ := info_parts info_b8
  go_enter Try.func16, Try.ntmps16
  go_wp2_with (go_at_call 26; refine (check_c B b cs _ h).mono ?_)
  rintro e w1 ⟨rfl, h1, hb1⟩
  obtain ⟨hB, v, hbk, hown, hne⟩ := h1
  obtain ⟨ao0, cap0, rfl⟩ : ∃ ao cap, v = .slice ao cs.length cap := by
    rcases hown.2 with ⟨hv, h0⟩ | ⟨g, cap, cur, fz, hv, _⟩
    · exact ⟨none, 0, by rw [hv, h0]⟩
    · exact ⟨_, _, hv⟩
  have c0 : w1.cell? ⟨b, 0, none⟩ = some (.pointer (some ⟨b, 0, none⟩)) := by rw [Lib.cell_of_heap hbk]; rfl
  have c1 : w1.cell? ⟨b, 1, none⟩ = some (.slice ao0 cs.length cap0) := by rw [Lib.cell_of_heap hbk]; rfl
  have hbs := hb1.size
  have hlt : b < w1.heap.size := by
    rcases Nat.lt_or_ge b w1.heap.size with h' | h'
    · exact h'
    · simp [Array.getElem?_eq_none h'] at hbk
  go_wp2_with (at_builtin; refine wpList_append_ownF _ rfl _ _ 31 rfl B 5 i0 _ 1 1 Try.underlying31 hi hz0 hz1 hz2 rfl (by decide) _ cs.length cs rfl (hown.alloc _) ⟨w1.heap.size, 0, none⟩ 1 1 [.int .u8 (c.toNat : Int)] rfl rfl (one_new _ _ _) (by simp [Value.oneCell']) (by unfold maxLen; omega) (by omega) (by simp; omega) ?_)
  intro v' w2 hown' hgrow _
  have hb2 : w2.heap[b]? = some (.cells #[.pointer (some ⟨b, 0, none⟩), .slice ao0 cs.length cap0] 43 (0, 0)) := by
    rw [hgrow.block b (by simp; omega) (fun e => hne e.symm), Lib.alloc_old w1 _ b hlt]
    exact hbk
  have d0 : w2.cell? ⟨b, 0, none⟩ = some (.pointer (some ⟨b, 0, none⟩)) := by rw [Lib.cell_of_heap hb2]; rfl
  have d1 : w2.cell? ⟨b, 1, none⟩ = some (.slice ao0 cs.length cap0) := by rw [Lib.cell_of_heap hb2]; rfl
  have f1 : w2.frozen? ⟨b, 1, none⟩ = false := Lib.frozen_of_heap hb2 1
  obtain ⟨ao, n', cap, rfl⟩ : ∃ ao n' cap, v' = .slice ao n' cap := by
    rcases hown'.2 with ⟨hv, _⟩ | ⟨g, cap, cur, fz, hv, _⟩
    · exact ⟨_, _, _, hv⟩
    · exact ⟨_, _, _, hv⟩
  go_wp2
  go_ret
  refine ⟨rfl, .inr ?_, ?_⟩
  · exact Lib.BuilderAtF.put (T := 43) (e := 5) hB hb2 (bs' := cs ++ [.int .u8 (c.toNat : Int)]) (by simpa using hown') (by decide)
  · exact ((hb1.alloc (by omega) _).grown hgrow (by simp; omega) (fun k hk => (hown.lt k hk).1)).setCell (p := ⟨b, 1, none⟩) hB _

/-- where Escape stands -/
def EscAt (w : World) (s : ByteArray) (k : Nat) (w' : World) : Prop := k ≤ s.size ∧ Bld w.heap.size w.heap.size (escL ((bs s).take k)) w' ∧ Below w.heap.size w w'
theorem EscAt.next {w w1 w2 : World} {s : ByteArray} {k : Nat} {r : List UInt8} (h : EscAt w s k w1) (hk : k < s.size) (he : esc1 s[k] = r) (hb : Bld w.heap.size w.heap.size (escL ((bs s).take k) ++ r) w2) (hw : Below w.heap.size w1 w2) : EscAt w s (k + 1) w2 :=
  ⟨hk, by rw [esc_take s k hk, he]; exact hb, h.2.2.trans hw⟩
theorem byteNe {c d : UInt8} (h : c ≠ d) : ((c.toNat : Int) == (d.toNat : Int)) = false := by
  rw [beq_eq_false_iff_ne]
  intro e
  exact h (UInt8.toNat_inj.1 (by omega))

set_option maxRecDepth 100000 in
set_option maxHeartbeats 4000000 in
theorem mEscape_c (s : ByteArray) (w : World) (hs : s.size ≤ 20000000000000) :
    Calls Try.prog 9 #[.string s] w fun e w' => e = .returned (.string (tx (escL (bs s)))) ∧ Below w.heap.size w w' := by
  go_enter Try.func9, Try.ntmps9
  go_wp2
  refine wp_scope_again 0 (fun a' w' => ∃ (k : Nat) (u5 u6 u7 u8 u9 u10 u11 u12 u13 u14 u15 u16 u17 u18 u19 u20 u21 u22 u23 u24 u25 u26 u27 u28 u29 u30 : Value), a' = { tmps := #[.string s, undef, .string ⟨#[]⟩, .pointer (some ⟨w.heap.size, 0, none⟩), .int .i64 (k : Int), u5, u6, u7, u8, u9, u10, u11, u12, u13, u14, u15, u16, u17, u18, u19, u20, u21, u22, u23, u24, u25, u26, u27, u28, u29, u30], defers := [] } ∧ Hid (EscAt w s k w')) (fun a' _ => s.size - (intOf (a'.tmps.getD 4 undef)).toNat) rfl ?_ ?_
  · rintro a' w' ⟨k, u5, u6, u7, u8, u9, u10, u11, u12, u13, u14, u15, u16, u17, u18, u19, u20, u21, u22, u23, u24, u25, u26, u27, u28, u29, u30, rfl, hh⟩
    have hk := hh.out.1
    have hbs := hh.out.2.2.size
    by_cases hlt : k < s.size
    · have hne : ¬ ((k : Int) = (s.size : Int)) := by omega
      have hlen : (escL ((bs s).take k)).length ≤ 6 * k := Nat.le_trans (escL_len _) (by rw [List.length_take, bs_length]; omega)
      by_cases h1 : s[k] = 38
      · have hv : (s[k].toNat : Int) = 38 := by rw [h1]; rfl
        have HE : Hid (esc1 s[k] = [38, 97, 109, 112, 59]) := Lib.hid (by rw [h1]; rfl)
        clear h1
        go_wp2_with fail
        refine (WriteString_c _ _ _ _ _ hh.out.2.1 (by show _ + 5 ≤ _; omega) hbs).mono ?_
        rintro e w1 ⟨rfl, hb1, hw1⟩
        have HN : Hid (EscAt w s (k + 1) w1) := Lib.hid (hh.out.next hlt HE.out hb1 hw1)
        clear hb1 hw1
        go_wp2_with fail
        go_step3
        refine ⟨rfl, ⟨k + 1, _, _, _, _, _, _, _, _, _, _, _, _, _, _, _, _, _, _, _, _, _, _, _, _, _, _, rfl, HN⟩, ?_⟩
        simp [intOf]
        omega
      by_cases h2 : s[k] = 60
      · have hv : (s[k].toNat : Int) = 60 := by rw [h2]; rfl
        have HE : Hid (esc1 s[k] = [38, 108, 116, 59]) := Lib.hid (by rw [h2]; rfl)
        clear h1 h2
        go_wp2_with fail
        refine (WriteString_c _ _ _ _ _ hh.out.2.1 (by show _ + 4 ≤ _; omega) hbs).mono ?_
        rintro e w1 ⟨rfl, hb1, hw1⟩
        have HN : Hid (EscAt w s (k + 1) w1) := Lib.hid (hh.out.next hlt HE.out hb1 hw1)
        clear hb1 hw1
        go_wp2_with fail
        go_step3
        refine ⟨rfl, ⟨k + 1, _, _, _, _, _, _, _, _, _, _, _, _, _, _, _, _, _, _, _, _, _, _, _, _, _, _, rfl, HN⟩, ?_⟩
        simp [intOf]
        omega
      by_cases h3 : s[k] = 62
      · have hv : (s[k].toNat : Int) = 62 := by rw [h3]; rfl
        have HE : Hid (esc1 s[k] = [38, 103, 116, 59]) := Lib.hid (by rw [h3]; rfl)
        clear h1 h2 h3
        go_wp2_with fail
        refine (WriteString_c _ _ _ _ _ hh.out.2.1 (by show _ + 4 ≤ _; omega) hbs).mono ?_
        rintro e w1 ⟨rfl, hb1, hw1⟩
        have HN : Hid (EscAt w s (k + 1) w1) := Lib.hid (hh.out.next hlt HE.out hb1 hw1)
        clear hb1 hw1
        go_wp2_with fail
        go_step3
        refine ⟨rfl, ⟨k + 1, _, _, _, _, _, _, _, _, _, _, _, _, _, _, _, _, _, _, _, _, _, _, _, _, _, _, rfl, HN⟩, ?_⟩
        simp [intOf]
        omega
      by_cases h4 : s[k] = 34
      · have hv : (s[k].toNat : Int) = 34 := by rw [h4]; rfl
        have HE : Hid (esc1 s[k] = [38, 113, 117, 111, 116, 59]) := Lib.hid (by rw [h4]; rfl)
        clear h1 h2 h3 h4
        go_wp2_with fail
        refine (WriteString_c _ _ _ _ _ hh.out.2.1 (by show _ + 6 ≤ _; omega) hbs).mono ?_
        rintro e w1 ⟨rfl, hb1, hw1⟩
        have HN : Hid (EscAt w s (k + 1) w1) := Lib.hid (hh.out.next hlt HE.out hb1 hw1)
        clear hb1 hw1
        go_wp2_with fail
        go_step3
        refine ⟨rfl, ⟨k + 1, _, _, _, _, _, _, _, _, _, _, _, _, _, _, _, _, _, _, _, _, _, _, _, _, _, _, rfl, HN⟩, ?_⟩
        simp [intOf]
        omega
      · have e1 : ((s[k].toNat : Int) == 38) = false := byteNe h1
        have e2 : ((s[k].toNat : Int) == 60) = false := byteNe h2
        have e3 : ((s[k].toNat : Int) == 62) = false := byteNe h3
        have e4 : ((s[k].toNat : Int) == 34) = false := byteNe h4
        have HE : Hid (esc1 s[k] = [s[k]]) := Lib.hid (esc1_plain h1 h2 h3 h4)
        clear h1 h2 h3 h4
        go_wp2_with fail
        refine (WriteByte_c _ _ _ _ _ hh.out.2.1 (by omega) hbs).mono ?_
        rintro e w1 ⟨rfl, hb1, hw1⟩
        have HN : Hid (EscAt w s (k + 1) w1) := Lib.hid (hh.out.next hlt HE.out hb1 hw1)
        clear hb1 hw1
        go_wp2_with fail
        go_step3
        refine ⟨rfl, ⟨k + 1, _, _, _, _, _, _, _, _, _, _, _, _, _, _, _, _, _, _, _, _, _, _, _, _, _, _, rfl, HN⟩, ?_⟩
        simp [intOf]
        omega
    · obtain rfl : k = s.size := by omega
      have HB : Hid (Bld w.heap.size w.heap.size (escL (bs s)) w') := Lib.hid (by
        have := hh.out.2.1
        rwa [List.take_of_length_le (by rw [bs_length]; exact Nat.le_refl _)] at this)
      go_wp2_with fail
      refine (String_c _ _ _ _ HB.out hbs).mono ?_
      rintro e w1 ⟨rfl, hw1⟩
      have HW : Hid (Below w.heap.size w w1) := Lib.hid (hh.out.2.2.trans hw1)
      clear hw1
      go_wp2_with fail
      simp only [Exit.jump]
      go_ret
      exact ⟨rfl, HW.out⟩
  · intro hpass
    go_wp2
    go_step3
    rename_i hK
    exact hK _ _ (hpass.out _ _ ⟨0, _, _, _, _, _, _, _, _, _, _, _, _, _, _, _, _, _, _, _, _, _, _, _, _, _, _, rfl, Nat.zero_le _, Lib.IsBuilderF.of (Lib.fresh_isBuilder _ _ w), (Below.refl _ _).alloc (Nat.le_refl _) _⟩)

end Go.Proofs.Ytdcgeobimenlpaa
