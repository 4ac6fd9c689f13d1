/-
  A text escaped: plain facts, and the document's own Escape.
-/
import Derived.Test.YtpmmmmfaaimmfaaDoorTkEntities
import Derived.Lib.AppendStr
import Derived.OwnWalk
namespace Nwl
open Go
def esc1 (c : UInt8) : List UInt8 := if c = 38 then [38, 97, 109, 112, 59] else if c = 60 then [38, 108, 116, 59] else if c = 62 then [38, 103, 116, 59] else if c = 34 then [38, 113, 117, 111, 116, 59] else [c]
def escL : List UInt8 → List UInt8
  | [] => []
  | c :: r => esc1 c ++ escL r
theorem escL_append : ∀ a b : List UInt8, escL (a ++ b) = escL a ++ escL b
  | [], b => rfl
  | c :: a, b => by rw [List.cons_append, escL, escL, escL_append a b, List.append_assoc]
theorem esc1_len (c : UInt8) : 1 ≤ (esc1 c).length ∧ (esc1 c).length ≤ 6 := by
  unfold esc1; repeat' split
  all_goals simp
theorem escL_len : ∀ l : List UInt8, (escL l).length ≤ 6 * l.length
  | [] => by simp [escL]
  | c :: l => by
    have h1 := esc1_len c
    have h2 := escL_len l
    rw [escL, List.length_append, List.length_cons]; omega
theorem ent_esc1 (c : UInt8) (r : List UInt8) : entL (esc1 c ++ r) = (entL r).map (c :: ·) := by
  unfold esc1
  by_cases h1 : c = 38
  · subst h1; rw [if_pos rfl]; exact ent_name 2 (by decide) r
  rw [if_neg h1]
  by_cases h2 : c = 60
  · subst h2; rw [if_pos rfl]; exact ent_name 0 (by decide) r
  rw [if_neg h2]
  by_cases h3 : c = 62
  · subst h3; rw [if_pos rfl]; exact ent_name 1 (by decide) r
  rw [if_neg h3]
  by_cases h4 : c = 34
  · subst h4; rw [if_pos rfl]; exact ent_name 3 (by decide) r
  rw [if_neg h4]
  exact entL_plain1 c r h1
theorem ent_esc : ∀ l : List UInt8, entL (escL l) = some l
  | [] => rfl
  | c :: l => by rw [escL, ent_esc1, ent_esc l]; rfl
theorem esc_mem {l : List UInt8} {d : UInt8} (h : d ∈ escL l) : (d ∈ l ∧ d ≠ 38 ∧ d ≠ 60 ∧ d ≠ 62 ∧ d ≠ 34) ∨ d ∈ [38, 97, 109, 112, 59, 108, 116, 103, 113, 117, 111] := by
  induction l with
  | nil => simp [escL] at h
  | cons c l ih =>
    rw [escL, List.mem_append] at h
    rcases h with h | h
    · unfold esc1 at h
      by_cases h1 : c = 38
      · rw [if_pos h1] at h; exact .inr ((by decide : ∀ d ∈ ([38, 97, 109, 112, 59] : List UInt8), d ∈ ([38, 97, 109, 112, 59, 108, 116, 103, 113, 117, 111] : List UInt8)) d h)
      rw [if_neg h1] at h
      by_cases h2 : c = 60
      · rw [if_pos h2] at h; exact .inr ((by decide : ∀ d ∈ ([38, 108, 116, 59] : List UInt8), d ∈ ([38, 97, 109, 112, 59, 108, 116, 103, 113, 117, 111] : List UInt8)) d h)
      rw [if_neg h2] at h
      by_cases h3 : c = 62
      · rw [if_pos h3] at h; exact .inr ((by decide : ∀ d ∈ ([38, 103, 116, 59] : List UInt8), d ∈ ([38, 97, 109, 112, 59, 108, 116, 103, 113, 117, 111] : List UInt8)) d h)
      rw [if_neg h3] at h
      by_cases h4 : c = 34
      · rw [if_pos h4] at h; exact .inr ((by decide : ∀ d ∈ ([38, 113, 117, 111, 116, 59] : List UInt8), d ∈ ([38, 97, 109, 112, 59, 108, 116, 103, 113, 117, 111] : List UInt8)) d h)
      rw [if_neg h4] at h
      obtain rfl := List.mem_singleton.1 h
      exact .inl ⟨by simp, h1, h2, h3, h4⟩
    · rcases ih h with ⟨a, b⟩ | a
      · exact .inl ⟨List.mem_cons_of_mem _ a, b⟩
      · exact .inr a
theorem esc_60 (l : List UInt8) : 60 ∉ escL l := fun h => by
  rcases esc_mem h with ⟨_, _, h2, _⟩ | h
  · exact h2 rfl
  · revert h; decide
theorem esc_34 (l : List UInt8) : 34 ∉ escL l := fun h => by
  rcases esc_mem h with ⟨_, _, _, _, h2⟩ | h
  · exact h2 rfl
  · revert h; decide
theorem esc_all {l : List UInt8} (h : allL l = true) : allL (escL l) = true := by
  unfold allL at h ⊢
  rw [List.all_eq_true] at h ⊢
  intro d hd
  rcases esc_mem hd with ⟨h1, _⟩ | h1
  · exact h d h1
  · have : ∀ d ∈ ([38, 97, 109, 112, 59, 108, 116, 103, 113, 117, 111] : List UInt8), allowedI d.toNat = true := by decide
    exact this d h1
theorem esc_take (s : ByteArray) (k : Nat) (hk : k < s.size) : escL ((bs s).take (k + 1)) = escL ((bs s).take k) ++ esc1 s[k] := by
  rw [List.take_succ_eq_append_getElem (by rw [bs_length]; exact hk), escL_append]
  simp [escL, bs_get s k hk]
end Nwl
namespace Go.Proofs.YtpmmmmfaaimmfaaDoor
open Nwl
open Go.RowKit Go.Maps
set_option linter.unusedVariables false
theorem u8c_length (l : List UInt8) : (u8c l).length = l.length := by simp [u8c]
theorem u8c_append (l r : List UInt8) : u8c l ++ u8c r = u8c (l ++ r) := by simp [u8c]
theorem own_str {w : World} {base : Nat} {v : Value} {l : List UInt8} (h : w.ownsRow base 5 1 v l.length (u8c l)) :
    (convert 22 9 v).run Tryd.prog w = .ok (.string (tx l)) w := by
  rcases h.2 with ⟨rfl, h0⟩ | ⟨g, cap, cur, rfl, _, _, _, _, _, _⟩
  · have : l = [] := List.eq_nil_of_length_eq_zero h0
    subst this
    rw [run_convert_bytes_string w 22 9 5 none 0 0 Tryd.underlying22 Tryd.underlying5 Tryd.underlying9]
    rfl
  · exact own_text h
theorem own_more {w : World} {base : Nat} {v : Value} {l r : List UInt8} {xs : List Value} {n : Nat} (hn : n = l.length + r.length) (hx : xs = u8c l ++ u8c r) (h : w.ownsRow base 5 1 v n xs) :
    w.ownsRow base 5 1 v (l ++ r).length (u8c (l ++ r)) := by
  subst hn hx
  rw [u8c_append] at h
  rw [List.length_append]
  exact h
theorem cell_one1 (w : World) (a : Value) (t : TypeId) : ∀ j u, [a][j]? = some u → (w.alloc (.cells #[a] t)).cell? ((⟨w.heap.size, 0, none⟩ : Addr).add j) = some u := by
  intro j u hj
  match j, hj with
  | 0, hj => simp at hj; subst hj; simp [Addr.add]
  | j + 1, hj => simp at hj

theorem esc_next {w w1 : World} {v : Value} {s : ByteArray} {k n : Nat} {c : UInt8} {r : List UInt8} {xs : List Value} (hn : n = (escL ((bs s).take k)).length + r.length) (hx : xs = u8c (escL ((bs s).take k)) ++ u8c r) (h : w1.ownsRow w.heap.size 5 1 v n xs)
    (ht : escL ((bs s).take (k + 1)) = escL ((bs s).take k) ++ esc1 c) (he : esc1 c = r) (hb : Below w.heap.size w w1) :
    Hid (w1.ownsRow w.heap.size 5 1 v (escL ((bs s).take (k + 1))).length (u8c (escL ((bs s).take (k + 1)))) ∧ Below w.heap.size w w1) := by
  rw [ht, he]
  exact ⟨own_more hn hx h, hb⟩
theorem byte_ne {c d : UInt8} (h : c ≠ d) : ((c.toNat : Int) == (d.toNat : Int)) = false := by
  rw [beq_eq_false_iff_ne]
  intro e
  exact h (UInt8.toNat_inj.1 (by omega))

set_option maxRecDepth 100000 in
set_option maxHeartbeats 2000000 in
theorem Escape_c (s : ByteArray) (w : World) (hs : s.size ≤ 100000) :
    Calls Tryd.prog 11 #[.string s] w fun e w' => e = .returned (.string (tx (escL (bs s)))) ∧ Below w.heap.size w w' := by
  obtain ⟨i0, hi, hz0, hz1, hz2⟩ := info_parts info_b8
  go_enter Tryd.func11, Tryd.ntmps11
  go_wp2_with fail
  go_loopw [3, 4] (fun v i wr => ∃ k : Nat, k ≤ s.size ∧ i = .int .i64 k ∧ Hid (wr.ownsRow w.heap.size 5 1 v (escL ((bs s).take k)).length (u8c (escL ((bs s).take k))) ∧ Below w.heap.size w wr)) (fun _ i _ => s.size - (intOf i).toNat)
  case atStart => exact ⟨0, Nat.zero_le _, rfl, World.ownsRow_nil _ _ _ _, Below.refl _ _⟩
  case round =>
    obtain ⟨k, hk, rfl, hh⟩ := hrel
    obtain ⟨hown, hbel⟩ := hh.out
    clear hh
    by_cases hlt : k < s.size
    · have HT := Lib.hid (esc_take s k hlt)
      have hlen : (escL ((bs s).take k)).length ≤ 600000 := Nat.le_trans (escL_len _) (by rw [List.length_take, bs_length]; omega)
      have hbs := hbel.size
      have hc5 : s[k] = 38 ∨ s[k] = 60 ∨ s[k] = 62 ∨ s[k] = 34 ∨ (s[k] ≠ 38 ∧ s[k] ≠ 60 ∧ s[k] ≠ 62 ∧ s[k] ≠ 34) := by
        by_cases h1 : s[k] = 38
        · exact .inl h1
        by_cases h2 : s[k] = 60
        · exact .inr (.inl h2)
        by_cases h3 : s[k] = 62
        · exact .inr (.inr (.inl h3))
        by_cases h4 : s[k] = 34
        · exact .inr (.inr (.inr (.inl h4)))
        exact .inr (.inr (.inr (.inr ⟨h1, h2, h3, h4⟩)))
      rcases hc5 with hc | hc | hc | hc | ⟨h1, h2, h3, h4⟩
      · have ec : ((s[k].toNat : Int)) = 38 := by rw [hc]; rfl
        have HE1 : Hid (esc1 s[k] = [38, 97, 109, 112, 59]) := Lib.hid (by rw [hc]; rfl)
        clear hc
        go_wp2_with (at_builtin; refine Lib.wpList_append_own_string _ rfl _ _ 22 9 rfl w.heap.size 5 i0 Tryd.underlying22 Tryd.underlying9 hi hz0 hz1 hz2 _ _ _ rfl hown ⟨#[38, 97, 109, 112, 59]⟩ rfl (by unfold maxLen; show _ + 5 ≤ _; omega) (by show _ + 5 ≤ _; omega) (by omega) ?_; intro v' w1 hown' hgrow _)
        have X := esc_next (r := [38, 97, 109, 112, 59]) rfl rfl hown' HT.out HE1.out (Below.grown hbel hgrow (by omega) (fun j hj => (hown.lt _ hj).1))
        clear hown' hgrow
        go_roundw
        case rel => exact ⟨k + 1, by omega, by go_num, X.out⟩
        case measure => simp [intOf]; omega
      · have ec : ((s[k].toNat : Int)) = 60 := by rw [hc]; rfl
        have HE1 : Hid (esc1 s[k] = [38, 108, 116, 59]) := Lib.hid (by rw [hc]; rfl)
        clear hc
        go_wp2_with (at_builtin; refine Lib.wpList_append_own_string _ rfl _ _ 22 9 rfl w.heap.size 5 i0 Tryd.underlying22 Tryd.underlying9 hi hz0 hz1 hz2 _ _ _ rfl hown ⟨#[38, 108, 116, 59]⟩ rfl (by unfold maxLen; show _ + 4 ≤ _; omega) (by show _ + 4 ≤ _; omega) (by omega) ?_; intro v' w1 hown' hgrow _)
        have X := esc_next (r := [38, 108, 116, 59]) rfl rfl hown' HT.out HE1.out (Below.grown hbel hgrow (by omega) (fun j hj => (hown.lt _ hj).1))
        clear hown' hgrow
        go_roundw
        case rel => exact ⟨k + 1, by omega, by go_num, X.out⟩
        case measure => simp [intOf]; omega
      · have ec : ((s[k].toNat : Int)) = 62 := by rw [hc]; rfl
        have HE1 : Hid (esc1 s[k] = [38, 103, 116, 59]) := Lib.hid (by rw [hc]; rfl)
        clear hc
        go_wp2_with (at_builtin; refine Lib.wpList_append_own_string _ rfl _ _ 22 9 rfl w.heap.size 5 i0 Tryd.underlying22 Tryd.underlying9 hi hz0 hz1 hz2 _ _ _ rfl hown ⟨#[38, 103, 116, 59]⟩ rfl (by unfold maxLen; show _ + 4 ≤ _; omega) (by show _ + 4 ≤ _; omega) (by omega) ?_; intro v' w1 hown' hgrow _)
        have X := esc_next (r := [38, 103, 116, 59]) rfl rfl hown' HT.out HE1.out (Below.grown hbel hgrow (by omega) (fun j hj => (hown.lt _ hj).1))
        clear hown' hgrow
        go_roundw
        case rel => exact ⟨k + 1, by omega, by go_num, X.out⟩
        case measure => simp [intOf]; omega
      · have ec : ((s[k].toNat : Int)) = 34 := by rw [hc]; rfl
        have HE1 : Hid (esc1 s[k] = [38, 113, 117, 111, 116, 59]) := Lib.hid (by rw [hc]; rfl)
        clear hc
        go_wp2_with (at_builtin; refine Lib.wpList_append_own_string _ rfl _ _ 22 9 rfl w.heap.size 5 i0 Tryd.underlying22 Tryd.underlying9 hi hz0 hz1 hz2 _ _ _ rfl hown ⟨#[38, 113, 117, 111, 116, 59]⟩ rfl (by unfold maxLen; show _ + 6 ≤ _; omega) (by show _ + 6 ≤ _; omega) (by omega) ?_; intro v' w1 hown' hgrow _)
        have X := esc_next (r := [38, 113, 117, 111, 116, 59]) rfl rfl hown' HT.out HE1.out (Below.grown hbel hgrow (by omega) (fun j hj => (hown.lt _ hj).1))
        clear hown' hgrow
        go_roundw
        case rel => exact ⟨k + 1, by omega, by go_num, X.out⟩
        case measure => simp [intOf]; omega
      · have b1 := byte_ne h1
        have b2 := byte_ne h2
        have b3 := byte_ne h3
        have b4 := byte_ne h4
        simp only [show ((38 : UInt8).toNat : Int) = 38 from rfl, show ((60 : UInt8).toNat : Int) = 60 from rfl, show ((62 : UInt8).toNat : Int) = 62 from rfl, show ((34 : UInt8).toNat : Int) = 34 from rfl] at b1 b2 b3 b4
        have HE1 : Hid (esc1 s[k] = [s[k]]) := Lib.hid (by unfold esc1; rw [if_neg h1, if_neg h2, if_neg h3, if_neg h4])
        clear h1 h2 h3 h4
        go_wp2_with (at_builtin; refine wpList_append_own _ rfl _ _ 22 rfl w.heap.size 5 i0 (.int .u8 0) 1 1 Tryd.underlying22 hi hz0 hz1 hz2 rfl (by decide) _ _ _ rfl (hown.alloc _) ⟨wr.heap.size, 0, none⟩ 1 1 [.int .u8 (s[k].toNat : Int)] rfl rfl (cell_one1 _ _ _) (fun u hu => by simp at hu; subst hu; rfl) (by unfold maxLen; omega) (by omega) (by simp; omega) ?_; intro v' w1 hown' hgrow _)
        have X := esc_next (r := [s[k]]) rfl rfl hown' HT.out HE1.out (Below.grown (hbel.alloc (by omega) _) hgrow (by simp; omega) (fun j hj => (hown.lt _ hj).1))
        clear hown' hgrow
        go_roundw
        case rel => exact ⟨k + 1, by omega, by go_num, X.out⟩
        case measure => simp [intOf]; omega
    · obtain rfl : k = s.size := by omega
      have hback := own_str hown
      have hfin : Hid (tx (escL ((bs s).take s.size)) = tx (escL (bs s))) := Lib.hid (by rw [List.take_of_length_le (by rw [bs_length]; omega)])
      have HB := Lib.hid hbel
      clear hbel hown
      go_wp2_with fail
      go_ret
      exact ⟨ret_str hfin.out, HB.out⟩
end Go.Proofs.YtpmmmmfaaimmfaaDoor
