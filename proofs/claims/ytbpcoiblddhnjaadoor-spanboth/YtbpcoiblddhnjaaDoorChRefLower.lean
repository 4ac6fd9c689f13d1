/-
  The document's own Lower: bytes appended one by one, then a text.
-/
import Derived.Test.YtbpcoiblddhnjaaDoorChLower
namespace Go.Proofs.YtbpcoiblddhnjaaDoor
open Nwl
open Go.RowKit

theorem info_u8 : (Tryd.prog.info? 5).map (fun i => (i.zero, i.size, i.bytes)) = some (some (.int .u8 0), 1, 1) := by kernel_rfl

/-- bytes as cells -/
def u8s (l : List UInt8) : List Value := l.map fun c => .int .u8 (c.toNat : Int)
theorem u8s_length (l : List UInt8) : (u8s l).length = l.length := by simp [u8s]
theorem u8s_snoc (l : List UInt8) (c : UInt8) : u8s l ++ [.int .u8 (c.toNat : Int)] = u8s (l ++ [c]) := by simp [u8s]
theorem u8s_append (l r : List UInt8) : u8s l ++ u8s r = u8s (l ++ r) := by simp [u8s]

/-- 'string(b)' of a slice of the call's own -/
theorem owned_string {w : World} {base : Nat} {v : Value} {l : List UInt8} (h : w.ownsRow base 5 1 v l.length (u8s l)) :
    (convert 46 9 v).run Tryd.prog w = .ok (.string (tx l)) w := by
  rcases h.2 with ⟨rfl, h0⟩ | ⟨g, cap, cur, rfl, _, _, _, _, _, _⟩
  · have : l = [] := List.eq_nil_of_length_eq_zero h0
    subst this
    rw [run_convert_bytes_string w 46 9 5 none 0 0 Tryd.underlying46 Tryd.underlying5 Tryd.underlying9]
    rfl
  · exact run_convert_bytes_back (P := Tryd.prog) w 46 9 5 ⟨g, 0, none⟩ cap l Tryd.underlying46 Tryd.underlying5 Tryd.underlying9 (by
      intro j hj
      exact h.cells (g := g) rfl j _ (by simp [u8s, List.getElem?_eq_getElem hj]))

theorem lower_snoc (s : ByteArray) (k : Nat) (hk : k < s.size) : lowerL ((bs s).take (k + 1)) = lowerL ((bs s).take k) ++ [low8 s[k]] := by
  rw [List.take_succ_eq_append_getElem (by rw [bs_length]; exact hk)]
  simp [lowerL, bs_get s k hk]
theorem lower_len (s : ByteArray) (k : Nat) (hk : k ≤ s.size) : (lowerL ((bs s).take k)).length = k := by
  simp [lowerL, bs_length]; omega

theorem own_snoc {w : World} {base : Nat} {v : Value} {l : List UInt8} {n : Nat} {c : UInt8} (hn : l.length = n) (h : w.ownsRow base 5 1 v (n + 1) (u8s l ++ [.int .u8 (c.toNat : Int)])) :
    w.ownsRow base 5 1 v (l ++ [c]).length (u8s (l ++ [c])) := by
  rw [u8s_snoc] at h
  rw [List.length_append, hn]
  exact h

theorem cell_one (w : World) (a : Value) (t : TypeId) : ∀ j u, [a][j]? = some u → (w.alloc (.cells #[a] t)).cell? ((⟨w.heap.size, 0, none⟩ : Addr).add j) = some u := by
  intro j u hj
  match j, hj with
  | 0, hj => simp at hj; subst hj; simp [Addr.add]
  | j + 1, hj => simp at hj

set_option maxHeartbeats 800000 in
theorem refLower_c (s : ByteArray) (w : World) (hs : s.size ≤ 140737488351232) :
    Calls Tryd.prog 58 #[.string s] w fun e w' => e = .returned (.string (lowerB s)) ∧ Below w.heap.size w w' := by
  obtain ⟨i0, hi, hz0, hz1, hz2⟩ := info_parts info_u8
  go_enter Tryd.func58, Tryd.ntmps58
  go_wp2
  go_loopw [3, 4] (fun v i wr => ∃ k : Nat, k ≤ s.size ∧ i = .int .i64 k ∧ wr.ownsRow w.heap.size 5 1 v (lowerL ((bs s).take k)).length (u8s (lowerL ((bs s).take k))) ∧ Below w.heap.size w wr) (fun _ i _ => s.size - (intOf i).toNat)
  case atStart => exact ⟨0, Nat.zero_le _, rfl, World.ownsRow_nil _ _ _ _, Below.refl _ _⟩
  case round =>
    obtain ⟨k, hk, rfl, hown, hbel⟩ := hrel
    by_cases hlt : k < s.size
    · have hll : Hid ((lowerL ((bs s).take k)).length = k) := Lib.hid (lower_len s k hk)
      rw [hll.out] at hown
      have hsn : Hid (lowerL ((bs s).take (k + 1)) = lowerL ((bs s).take k) ++ [low8 s[k]]) := Lib.hid (lower_snoc s k hlt)
      have hbs := hbel.size
      cases hu : upperI s[k].toNat with
      | true =>
        have hb : 65 ≤ (s[k].toNat : Int) ∧ (s[k].toNat : Int) ≤ 90 := by simpa [upperI] using hu
        obtain ⟨hb1, hb2⟩ := hb
        have hlv : Hid (((low8 s[k]).toNat : Int) = (s[k].toNat : Int) + 32) := Lib.hid (low8_val _ hu)
        go_wp2_with (at_builtin; refine wpList_append_own _ rfl _ _ 46 rfl w.heap.size 5 i0 (.int .u8 0) 1 1 Tryd.underlying46 hi hz0 hz1 hz2 rfl (by decide) _ _ _ rfl (hown.alloc _) ⟨wr.heap.size, 0, none⟩ 1 1 [.int .u8 ((s[k].toNat : Int) + 32)] rfl rfl (cell_one _ _ _) (fun u hu => by simp at hu; subst hu; rfl) (by unfold maxLen; omega) (by omega) (by simp; omega) ?_; intro v' w1 hown' hgrow _)
        rw [← hlv.out] at hown'
        have hown2 := own_snoc hll.out hown'
        rw [← hsn.out] at hown2
        have hbel2 : Below w.heap.size w w1 := Below.grown (hbel.alloc (by omega) _) hgrow (by simp; omega) (fun j hj => (hown.lt _ hj).1)
        have X : Hid (w1.ownsRow w.heap.size 5 1 v' (lowerL ((bs s).take (k + 1))).length (u8s (lowerL ((bs s).take (k + 1)))) ∧ Below w.heap.size w w1) := ⟨hown2, hbel2⟩
        clear hown' hgrow hown2 hbel2 hown
        go_wp2
        go_roundw
        case rel => exact ⟨k + 1, by omega, by go_num, X.out.1, X.out.2⟩
        case measure => simp [intOf]; omega
      | false =>
        have hlv : Hid (low8 s[k] = s[k]) := Lib.hid (low8_same _ hu)
        have hways : ¬ 65 ≤ (s[k].toNat : Int) ∨ (65 ≤ (s[k].toNat : Int) ∧ ¬ (s[k].toNat : Int) ≤ 90) := by
          simp [upperI] at hu; omega
        rcases hways with hw1 | ⟨hw1, hw2⟩
        all_goals
          go_wp2_with (at_builtin; refine wpList_append_own _ rfl _ _ 46 rfl w.heap.size 5 i0 (.int .u8 0) 1 1 Tryd.underlying46 hi hz0 hz1 hz2 rfl (by decide) _ _ _ rfl (hown.alloc _) ⟨wr.heap.size, 0, none⟩ 1 1 [.int .u8 (s[k].toNat : Int)] rfl rfl (cell_one _ _ _) (fun u hu => by simp at hu; subst hu; rfl) (by unfold maxLen; omega) (by omega) (by simp; omega) ?_; intro v' w1 hown' hgrow _)
          have hown2 := own_snoc hll.out hown'
          rw [← hlv.out, ← hsn.out] at hown2
          have hbel2 : Below w.heap.size w w1 := Below.grown (hbel.alloc (by omega) _) hgrow (by simp; omega) (fun j hj => (hown.lt _ hj).1)
          have X : Hid (w1.ownsRow w.heap.size 5 1 v' (lowerL ((bs s).take (k + 1))).length (u8s (lowerL ((bs s).take (k + 1)))) ∧ Below w.heap.size w w1) := ⟨hown2, hbel2⟩
          clear hown' hgrow hown2 hbel2 hown
          go_wp2
          go_roundw
          case rel => exact ⟨k + 1, by omega, by go_num, X.out.1, X.out.2⟩
          case measure => simp [intOf]; omega
    · obtain rfl : k = s.size := by omega
      have hback := owned_string hown
      have hfin : Hid (tx (lowerL ((bs s).take s.size)) = lowerB s) := Lib.hid (by rw [List.take_of_length_le (by rw [bs_length]; omega)]; rfl)
      go_wp2
      go_ret
      exact ⟨ret_str hfin.out, hbel⟩

end Go.Proofs.YtbpcoiblddhnjaaDoor
