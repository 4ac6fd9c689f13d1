/-
  Contracts of cmp.Or (of two texts) and coord.Key.
-/
import Derived.Test.YthmlggglemnfgaaCoParse
import Derived.Lib.Walk
import Derived.Lib.Slices
import Derived.Deep.RegionHeld3
namespace Nwl
def typeL (t : List UInt8) : List UInt8 := if t = [] then [106, 97, 114] else t
def keyL (g n t c : List UInt8) : List UInt8 := g ++ [58] ++ n ++ [58] ++ typeL t ++ [58] ++ c
theorem typeL_len {t : List UInt8} {m : Nat} (h : t.length ≤ m) (hm : 3 ≤ m) : (typeL t).length ≤ m := by
  unfold typeL
  split
  · exact hm
  · exact h
theorem tx_key (g n t c : List UInt8) : (((((tx g ++ ⟨#[58]⟩) ++ tx n) ++ ⟨#[58]⟩) ++ tx (typeL t)) ++ ⟨#[58]⟩) ++ tx c = tx (keyL g n t c) := bs_inj (by rw [bs_append, bs_append, bs_append, bs_append, bs_append, bs_append]; rfl)
end Nwl
namespace Go.Proofs.Ythmlggglemnfgaa
open Nwl
open Go.RowKit Go.Maps
set_option linter.unusedVariables false
set_option linter.unusedSimpArgs false

theorem jar_list : (⟨#[106, 97, 114]⟩ : ByteArray).toList = [106, 97, 114] := by rw [toList_bs]; rfl
theorem tx_list (t : List UInt8) : (tx t).toList = t := by rw [toList_bs]; rfl

set_option maxRecDepth 100000 in
set_option maxHeartbeats 1000000 in
theorem cmpOrS_c (g : Nat) (t : List UInt8) (w : World) (h0 : w.cell? ⟨g, 0, none⟩ = some (.string (tx t))) (h1 : w.cell? ⟨g, 1, none⟩ = some (.string ⟨#[106, 97, 114]⟩)) (r : List UInt8) (hr : typeL t = r) :
    Calls Try.prog 12 #[.slice (some ⟨g, 0, none⟩) 2 2] w fun e w' => e = .returned (.string (tx r)) ∧ w = w' := by
  have hj := jar_list
  by_cases hx : t = []
  · subst hx
    obtain rfl : [106, 97, 114] = r := hr
    have he : (tx []).toList = [] := tx_list []
    go_enter Try.func12, Try.ntmps12
    go_wp2_with fail
    refine wp_loop_rounds 2 ?_
    rw [rounds_succ]
    go_wp2_with fail
    rw [rounds_succ]
    go_wp2_with fail
    go_ret
    exact ⟨rfl, rfl⟩
  · obtain rfl : t = r := by rw [← hr]; unfold typeL; rw [if_neg hx]
    have he : (tx t).toList.isEmpty = false := by
      rw [tx_list]
      cases t with
      | nil => exact absurd rfl hx
      | cons => rfl
    have he2 : ((tx t).toList == []) = false := by rw [tx_list, beq_eq_false_iff_ne]; exact hx
    have he3 : ((tx t).toList != []) = true := by rw [bne, he2]; rfl
    clear hr hx
    go_enter Try.func12, Try.ntmps12
    go_wp2_with fail
    refine wp_loop_rounds 1 ?_
    rw [rounds_succ]
    go_wp2_with fail
    go_ret
    exact ⟨rfl, rfl⟩

/-- a dependency as a value -/
abbrev dpV (g n v t c s : List UInt8) (o : Bool) (A : Option Addr) (l k : Nat) : Value := .agg #[.string (tx g), .string (tx n), .string (tx v), .string (tx t), .string (tx c), .string (tx s), .bool o, .slice A l k]
abbrev dpC (g n v t c s : List UInt8) (o : Bool) (A : Option Addr) (l k : Nat) : Array Value := #[.string (tx g), .string (tx n), .string (tx v), .string (tx t), .string (tx c), .string (tx s), .bool o, .slice A l k]
/-- its box -/
def DB (w W : World) (g n v t c s : List UInt8) (o : Bool) (A : Option Addr) (l k : Nat) : Prop := Blk W w.heap.size 24 (dpC g n v t c s o A l k) ∧ Below w.heap.size w W
theorem DB.rd {w W : World} {g n v t c s : List UInt8} {o : Bool} {A : Option Addr} {l k : Nat} (h : Hid (DB w W g n v t c s o A l k)) : W.cell? ⟨w.heap.size, 0, none⟩ = some (.string (tx g)) ∧ W.cell? ⟨w.heap.size, 1, none⟩ = some (.string (tx n)) ∧ W.cell? ⟨w.heap.size, 3, none⟩ = some (.string (tx t)) ∧ W.cell? ⟨w.heap.size, 4, none⟩ = some (.string (tx c)) := ⟨h.out.1.cell 0, h.out.1.cell 1, h.out.1.cell 3, h.out.1.cell 4⟩
theorem DB.new (w : World) (g n v t c s : List UInt8) (o : Bool) (A : Option Addr) (l k : Nat) : DB w (w.alloc (.cells (dpC g n v t c s o A l k) 24)) g n v t c s o A l k := ⟨Blk.new w _ _, (Below.refl _ _).alloc (Nat.le_refl _) _⟩
theorem DB.alloc {w W : World} {g n v t c s : List UInt8} {o : Bool} {A : Option Addr} {l k : Nat} (h : DB w W g n v t c s o A l k) (x : Obj) : DB w (W.alloc x) g n v t c s o A l k := ⟨h.1.alloc x, h.2.alloc h.2.size x⟩
theorem DB.below {w W W' : World} {g n v t c s : List UInt8} {o : Bool} {A : Option Addr} {l k : Nat} (h : DB w W g n v t c s o A l k) (hb : Below W.heap.size W W') : DB w W' g n v t c s o A l k := ⟨h.1.below hb, h.2.trans (hb.mono h.2.size)⟩

set_option maxRecDepth 100000 in
set_option maxHeartbeats 4000000 in
theorem CKey_c (g n v t c s : List UInt8) (o : Bool) (A : Option Addr) (l k : Nat) (w : World) (hg : g.length ≤ 1000000000000000) (hn : n.length ≤ 1000000000000000) (ht : t.length ≤ 1000000000000000) (hc : c.length ≤ 1000000000000000) (F : List UInt8) (hF : keyL g n t c = F) :
    Calls Try.prog 8 #[dpV g n v t c s o A l k] w fun e w' => e = .returned (.string (tx F)) ∧ Hid (Below w.heap.size w w') := by
  have HF := Lib.hid ((tx_key g n t c).trans (congrArg tx hF))
  obtain ⟨u, hu⟩ : ∃ u, typeL t = u := ⟨_, rfl⟩
  have hul : u.length ≤ 1000000000000000 := by rw [← hu]; exact typeL_len ht (by omega)
  have sg := tx_small hg
  have sn := tx_small hn
  have su := tx_small hul
  have sc := tx_small hc
  have k1 : ¬ 9223372036854775807 < (tx g).size + 1 := by omega
  have k2 : ¬ 9223372036854775807 < (tx g).size + 1 + (tx n).size := by omega
  have k3 : ¬ 9223372036854775807 < (tx g).size + 1 + (tx n).size + 1 := by omega
  have k4 : ¬ 9223372036854775807 < (tx g).size + 1 + (tx n).size + 1 + (tx u).size := by omega
  have k5 : ¬ 9223372036854775807 < (tx g).size + 1 + (tx n).size + 1 + (tx u).size + 1 := by omega
  have k6 : ¬ 9223372036854775807 < (tx g).size + 1 + (tx n).size + 1 + (tx u).size + 1 + (tx c).size := by omega
  rw [hu] at HF
  have HU := Lib.hid hu
  have X0 := Lib.hid (DB.new w g n v t c s o A l k)
  clear hF hg hn ht hc sg sn su sc hul hu
  obtain ⟨w1, hw1⟩ : ∃ w1, w.alloc (.cells (dpC g n v t c s o A l k) 24) = w1 := ⟨_, rfl⟩
  go_enter Try.func8, Try.ntmps8
  go_upto_region 1 with fail
  rw [hw1] at X0
  clear hw1
  have X1 := Lib.hid (X0.out.alloc (.cells #[.string (tx t), .string ⟨#[106, 97, 114]⟩] 9))
  go_region_held3 (fun w' => w'.cell? ⟨w.heap.size, 0, none⟩ = some (.string (tx g)) ∧ w'.cell? ⟨w.heap.size, 1, none⟩ = some (.string (tx n)) ∧ w'.cell? ⟨w.heap.size, 3, none⟩ = some (.string (tx t)) ∧ w'.cell? ⟨w.heap.size, 4, none⟩ = some (.string (tx c))) (first | (have h := DB.rd X0; exact h) | (have h := DB.rd X1; exact h) | fail) (first
    | (go_at_call 12; refine (cmpOrS_c w1.heap.size t (w1.alloc (.cells #[.string (tx t), .string ⟨#[106, 97, 114]⟩] 9)).drew ((Blk.new w1 9 #[.string (tx t), .string ⟨#[106, 97, 114]⟩]).cell 0) ((Blk.new w1 9 #[.string (tx t), .string ⟨#[106, 97, 114]⟩]).cell 1) u HU.out).mono ?_; rintro e w3 ⟨rfl, rfl⟩))
  go_wp2_with fail
  go_ret
  exact ⟨ret_txt HF.out, Lib.hid X1.out.2.drew⟩
end Go.Proofs.Ythmlggglemnfgaa
