/-
  Contracts of the document's own Type, Key, CoordLess.
-/
import Derived.Test.YthmlggglemnfgaaDoorCoRef
import Derived.Test.YthmlggglemnfgaaDoorCoLess
import Derived.Test.YthmlggglemnfgaaDoorCoKey
import Derived.Test.YthmlggglemnfgaaDoorRcBefore
namespace Nwl
open Go
theorem bytes_less9 (a b : List UInt8) : Op.bytesLess a b = decide (Lib.compareBytes a b < 0) := by
  rw [less_cb]
  rcases cb_sgn a b with h | h | h <;> rw [h] <;> rfl
end Nwl
namespace Go.Proofs.YthmlggglemnfgaaDoor
open Nwl
open Go.RowKit Go.Maps
set_option linter.unusedVariables false
set_option linter.unusedSimpArgs false

set_option maxRecDepth 100000 in
set_option maxHeartbeats 1000000 in
theorem rType_c (g n v t c s : List UInt8) (o : Bool) (A : Option Addr) (l k : Nat) (w : World) (r : List UInt8) (hr : typeL t = r) :
    Calls Tryd.prog 25 #[dpV g n v t c s o A l k] w fun e w' => e = .returned (.string (tx r)) ∧ Hid (Below w.heap.size w w') := by
  have BB := Lib.hid ((Below.refl w.heap.size w).alloc (Nat.le_refl _) (.cells (dpC g n v t c s o A l k) 26))
  by_cases hx : t = []
  · subst hx
    obtain rfl : [106, 97, 114] = r := hr
    have he : (tx []).toList = [] := tx_list []
    go_enter Tryd.func25, Tryd.ntmps25
    go_wp2_with fail
    go_ret
    exact ⟨rfl, BB⟩
  · obtain rfl : t = r := by rw [← hr]; unfold typeL; rw [if_neg hx]
    have he : (tx t).toList.isEmpty = false := by
      rw [tx_list]
      cases t with
      | nil => exact absurd rfl hx
      | cons => rfl
    have he2 : ((tx t).toList == []) = false := by rw [tx_list, beq_eq_false_iff_ne]; exact hx
    clear hr hx
    go_enter Tryd.func25, Tryd.ntmps25
    go_wp2_with fail
    go_ret
    exact ⟨rfl, BB⟩

theorem DB.drew {w W : World} {g n v t c s : List UInt8} {o : Bool} {A : Option Addr} {l k : Nat} (h : DB w W g n v t c s o A l k) : DB w W.drew g n v t c s o A l k := ⟨h.1, h.2.drew⟩
theorem DB.rd8 {w W : World} {g n v t c s : List UInt8} {o : Bool} {A : Option Addr} {l k : Nat} (h : Hid (DB w W g n v t c s o A l k)) : W.cell? ⟨w.heap.size, 0, none⟩ = some (.string (tx g)) ∧ W.cell? ⟨w.heap.size, 1, none⟩ = some (.string (tx n)) ∧ W.cell? ⟨w.heap.size, 2, none⟩ = some (.string (tx v)) ∧ W.cell? ⟨w.heap.size, 3, none⟩ = some (.string (tx t)) ∧ W.cell? ⟨w.heap.size, 4, none⟩ = some (.string (tx c)) ∧ W.cell? ⟨w.heap.size, 5, none⟩ = some (.string (tx s)) ∧ W.cell? ⟨w.heap.size, 6, none⟩ = some (.bool o) ∧ W.cell? ⟨w.heap.size, 7, none⟩ = some (.slice A l k) := ⟨h.out.1.cell 0, h.out.1.cell 1, h.out.1.cell 2, h.out.1.cell 3, h.out.1.cell 4, h.out.1.cell 5, h.out.1.cell 6, h.out.1.cell 7⟩

set_option maxRecDepth 100000 in
set_option maxHeartbeats 4000000 in
theorem rKey_c (g n v t c s : List UInt8) (o : Bool) (A : Option Addr) (l k : Nat) (w : World) (hg : g.length ≤ 1000000000000000) (hn : n.length ≤ 1000000000000000) (ht : t.length ≤ 1000000000000000) (hc : c.length ≤ 1000000000000000) (F : List UInt8) (hF : keyL g n t c = F) :
    Calls Tryd.prog 16 #[dpV g n v t c s o A l k] w fun e w' => e = .returned (.string (tx F)) ∧ Hid (Below w.heap.size w w') := by
  have HF := Lib.hid ((tx_key g n t c).trans (congrArg tx hF))
  obtain ⟨u, hu⟩ : ∃ u, typeL t = u := ⟨_, rfl⟩
  have hul : u.length ≤ 1000000000000000 := by rw [← hu]; exact typeL_len ht (by omega)
  have sg := tx_small hg
  have sn := tx_small hn
  have su := tx_small hul
  have sc := tx_small hc
  have k1 : ¬ 9223372036854775807 < (tx g).size + 1 := by omega
  have k2 : ¬ 9223372036854775807 < (tx g).size + 1 + (tx n).size := by omega
  have k3 : ¬ 9223372036854775807 < (tx g).size + 1 + (tx n).size + 1 := by omega
  have k4 : ¬ 9223372036854775807 < (tx g).size + 1 + (tx n).size + 1 + (tx u).size := by omega
  have k5 : ¬ 9223372036854775807 < (tx g).size + 1 + (tx n).size + 1 + (tx u).size + 1 := by omega
  have k6 : ¬ 9223372036854775807 < (tx g).size + 1 + (tx n).size + 1 + (tx u).size + 1 + (tx c).size := by omega
  rw [hu] at HF
  have HU := Lib.hid hu
  have X0 := Lib.hid (DB.new w g n v t c s o A l k)
  clear hF hg hn ht hc sg sn su sc hul hu
  obtain ⟨w1, hw1⟩ : ∃ w1, w.alloc (.cells (dpC g n v t c s o A l k) 26) = w1 := ⟨_, rfl⟩
  go_enter Tryd.func16, Tryd.ntmps16
  go_upto_region 1 with fail
  rw [hw1] at X0
  clear hw1
  go_region_held3 (fun w' => w'.cell? ⟨w.heap.size, 0, none⟩ = some (.string (tx g)) ∧ w'.cell? ⟨w.heap.size, 1, none⟩ = some (.string (tx n)) ∧ w'.cell? ⟨w.heap.size, 2, none⟩ = some (.string (tx v)) ∧ w'.cell? ⟨w.heap.size, 3, none⟩ = some (.string (tx t)) ∧ w'.cell? ⟨w.heap.size, 4, none⟩ = some (.string (tx c)) ∧ w'.cell? ⟨w.heap.size, 5, none⟩ = some (.string (tx s)) ∧ w'.cell? ⟨w.heap.size, 6, none⟩ = some (.bool o) ∧ w'.cell? ⟨w.heap.size, 7, none⟩ = some (.slice A l k)) (first | (have h := DB.rd8 X0; exact h) | (have h := DB.rd8 X1; exact h) | fail) (first
    | (go_at_call 25; refine (rType_c g n v t c s o A l k _ u HU.out).mono ?_; rintro e w3 ⟨rfl, b3⟩; have X1 := Lib.hid (X0.out.drew.below b3.out); clear b3))
  go_wp2_with fail
  go_ret
  exact ⟨ret_txt HF.out, Lib.hid X1.out.2⟩

set_option maxRecDepth 100000 in
set_option maxHeartbeats 2000000 in
theorem rLess9_c (g1 n1 v1 g2 n2 v2 : List UInt8) (w : World) (h1 : v1.length ≤ 1000) (h2 : v2.length ≤ 1000) (r : Bool) (hr : lessC ⟨g1, n1, v1⟩ ⟨g2, n2, v2⟩ = r) :
    Calls Tryd.prog 18 #[crV g1 n1 v1, crV g2 n2 v2] w fun e w' => e = .returned (.bool r) ∧ Hid (Below w.heap.size w w') := by
  have X0 := Lib.hid (B2.new w (.string (tx g1)) (.string (tx n1)) (.string (tx v1)) (.string (tx g2)) (.string (tx n2)) (.string (tx v2)))
  have W0 := Lib.hid (((Below.refl w.heap.size w).alloc (Nat.le_refl _) (.cells #[.string (tx g1), .string (tx n1), .string (tx v1)] 23)).alloc (by simp) (.cells #[.string (tx g2), .string (tx n2), .string (tx v2)] 23))
  have SZ : Hid (w.heap.size ≤ ((w.alloc (.cells #[.string (tx g1), .string (tx n1), .string (tx v1)] 23)).alloc (.cells #[.string (tx g2), .string (tx n2), .string (tx v2)] 23)).heap.size) := Lib.hid (by simp; omega)
  have e1 := tx_list g1
  have e2 := tx_list g2
  have e3 := tx_list n1
  have e4 := tx_list n2
  have HR := Lib.hid hr
  have s1 : (tx v1).size ≤ 3000 := tx_small (by omega)
  have s2 : (tx v2).size ≤ 3000 := tx_small (by omega)
  clear hr h1 h2
  obtain ⟨w1, hw1⟩ : ∃ w1, (w.alloc (.cells #[.string (tx g1), .string (tx n1), .string (tx v1)] 23)).alloc (.cells #[.string (tx g2), .string (tx n2), .string (tx v2)] 23) = w1 := ⟨_, rfl⟩
  go_enter Tryd.func18, Tryd.ntmps18
  go_upto_region 1 with fail
  rw [hw1] at X0 W0 SZ
  clear hw1
  obtain ⟨z0, z1, z2, z3, z4, z5⟩ := B2.rd X0
  by_cases hg : g1 = g2
  · subst hg
    by_cases hn : n1 = n2
    · subst hn
      have HV : Hid (decide (ordV (bs (tx v1)) (bs (tx v2)) < 0) = r) := Lib.hid (by rw [← HR.out, less_ver ⟨g1, n1, v1⟩ ⟨g1, n1, v2⟩ rfl rfl]; rfl)
      go_wp2_with fail
      refine (rbefore_c (tx v1) (tx v2) _ s1 s2 r HV.out).mono ?_
      rintro e w3 ⟨rfl, b3⟩
      have W3 := Lib.hid (W0.out.trans (b3.out.mono SZ.out))
      clear b3
      go_wp2_with fail
      go_ret
      exact ⟨rfl, W3⟩
    · have hb : Op.bytesLess n1 n2 = r := by rw [← HR.out, less_name ⟨g1, n1, v1⟩ ⟨g1, n2, v2⟩ rfl hn]; exact bytes_less9 _ _
      have hn' : (n1 == n2) = false := beq_eq_false_iff_ne.2 hn
      go_wp2_with fail
      go_ret
      exact ⟨rfl, W0⟩
  · have hb : Op.bytesLess g1 g2 = r := by rw [← HR.out, less_group ⟨g1, n1, v1⟩ ⟨g2, n2, v2⟩ hg]; exact bytes_less9 _ _
    have hg' : (g1 == g2) = false := beq_eq_false_iff_ne.2 hg
    go_wp2_with fail
    go_ret
    exact ⟨rfl, W0⟩
end Go.Proofs.YthmlggglemnfgaaDoor
