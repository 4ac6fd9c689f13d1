/-
  MarkupNeeds: a right tree with one thing that may not be is not right.
-/
import Derived.Test.YtdcgeobimenlpaaMkForm
import Derived.Lib.ConvBytes
namespace Nwl
def needN : List Nd := [⟨-1, [97], [], [([120], [49])]⟩, ⟨0, [], [116], []⟩, ⟨0, [98], [], []⟩, ⟨2, [], [117], []⟩, ⟨0, [], [118], []⟩]
theorem need_right : rightB needN = true := by decide +kernel
theorem need_small : Small needN 1000000 := small_of (by decide +kernel)
def need11 (c : UInt8) : List Nd := [⟨-1, [97], [], [([120], [49])]⟩, ⟨0, [], [c], []⟩, ⟨0, [98], [], []⟩, ⟨2, [], [117], []⟩, ⟨0, [], [118], []⟩]
theorem need11_wrong {c : UInt8} (h : allowedI c.toNat = false) : rightB (need11 c) = false :=
  rightB_bad (k := 1) (by simp [need11]) (nodeB_1 (by simp [need11]) (by
    show mayBeB ⟨0, [], [c], []⟩ = false
    unfold mayBeB textB allL
    simp [h]))
theorem need11_small (c : UInt8) : ∀ n ∈ need11 c, bulkN n ≤ 1000000 := by
  intro n hn
  unfold need11 at hn
  simp only [List.mem_cons, List.not_mem_nil, or_false] at hn
  rcases hn with rfl | rfl | rfl | rfl | rfl <;> simp [bulkN]
theorem need11_len0 : ∀ c : Nat, c < 256 → (writeL (need11 (UInt8.ofNat c))).length ≤ 140737488355328 := by decide +kernel
theorem need11_len (c : UInt8) : (writeL (need11 c)).length ≤ 140737488355328 := by
  have := need11_len0 c.toNat (by have := c.toNat_lt; omega)
  rwa [UInt8.ofNat_toNat] at this
theorem write_of {ns : List Nd} (h : rightB ns = false) : writeT ns = [] ∧ writeE ns = 6 := write_no h
def need0 : List Nd := [⟨0, [97], [], [([120], [49])]⟩, ⟨0, [], [116], []⟩, ⟨0, [98], [], []⟩, ⟨2, [], [117], []⟩, ⟨0, [], [118], []⟩]
theorem need0_wrong : rightB need0 = false := by decide +kernel
theorem need0_small : ∀ n ∈ need0, bulkN n ≤ 1000000 := by decide +kernel
theorem need0_len : (writeL need0).length ≤ 140737488355328 := by decide +kernel
def need1 : List Nd := [⟨-1, [97], [], [([120], [49])]⟩, ⟨0, [], [116], []⟩, ⟨0, [49, 98], [], []⟩, ⟨2, [], [117], []⟩, ⟨0, [], [118], []⟩]
theorem need1_wrong : rightB need1 = false := by decide +kernel
theorem need1_small : ∀ n ∈ need1, bulkN n ≤ 1000000 := by decide +kernel
theorem need1_len : (writeL need1).length ≤ 140737488355328 := by decide +kernel
def need2 : List Nd := [⟨-1, [97], [], [([120], [49])]⟩, ⟨0, [], [], []⟩, ⟨0, [98], [], []⟩, ⟨2, [], [117], []⟩, ⟨0, [], [118], []⟩]
theorem need2_wrong : rightB need2 = false := by decide +kernel
theorem need2_small : ∀ n ∈ need2, bulkN n ≤ 1000000 := by decide +kernel
theorem need2_len : (writeL need2).length ≤ 140737488355328 := by decide +kernel
def need3 : List Nd := [⟨-1, [97], [], [([120], [49])]⟩, ⟨0, [], [116], []⟩, ⟨1, [98], [], []⟩, ⟨2, [], [117], []⟩, ⟨0, [], [118], []⟩]
theorem need3_wrong : rightB need3 = false := by decide +kernel
theorem need3_small : ∀ n ∈ need3, bulkN n ≤ 1000000 := by decide +kernel
theorem need3_len : (writeL need3).length ≤ 140737488355328 := by decide +kernel
def need4 : List Nd := [⟨-1, [97], [], [([120], [49])]⟩, ⟨0, [], [116], []⟩, ⟨0, [98], [119], []⟩, ⟨2, [], [117], []⟩, ⟨0, [], [118], []⟩]
theorem need4_wrong : rightB need4 = false := by decide +kernel
theorem need4_small : ∀ n ∈ need4, bulkN n ≤ 1000000 := by decide +kernel
theorem need4_len : (writeL need4).length ≤ 140737488355328 := by decide +kernel
def need5 : List Nd := [⟨-1, [97], [], [([120], [49])]⟩, ⟨0, [], [116], [([121], [])]⟩, ⟨0, [98], [], []⟩, ⟨2, [], [117], []⟩, ⟨0, [], [118], []⟩]
theorem need5_wrong : rightB need5 = false := by decide +kernel
theorem need5_small : ∀ n ∈ need5, bulkN n ≤ 1000000 := by decide +kernel
theorem need5_len : (writeL need5).length ≤ 140737488355328 := by decide +kernel
def need6 : List Nd := [⟨-1, [97], [], [([120], [49]), ([120], [])]⟩, ⟨0, [], [116], []⟩, ⟨0, [98], [], []⟩, ⟨2, [], [117], []⟩, ⟨0, [], [118], []⟩]
theorem need6_wrong : rightB need6 = false := by decide +kernel
theorem need6_small : ∀ n ∈ need6, bulkN n ≤ 1000000 := by decide +kernel
theorem need6_len : (writeL need6).length ≤ 140737488355328 := by decide +kernel
def need7 : List Nd := [⟨-1, [97], [], [([120], [49])]⟩, ⟨0, [], [116], []⟩, ⟨0, [98], [], []⟩, ⟨2, [], [117], []⟩, ⟨3, [], [118], []⟩]
theorem need7_wrong : rightB need7 = false := by decide +kernel
theorem need7_small : ∀ n ∈ need7, bulkN n ≤ 1000000 := by decide +kernel
theorem need7_len : (writeL need7).length ≤ 140737488355328 := by decide +kernel
def need8 : List Nd := [⟨-1, [97], [], [([120], [49])]⟩, ⟨0, [], [116], []⟩, ⟨0, [98], [], []⟩, ⟨2, [], [117], []⟩, ⟨0, [], [118], []⟩, ⟨0, [], [119], []⟩]
theorem need8_wrong : rightB need8 = false := by decide +kernel
theorem need8_small : ∀ n ∈ need8, bulkN n ≤ 1000000 := by decide +kernel
theorem need8_len : (writeL need8).length ≤ 140737488355328 := by decide +kernel
def need9 : List Nd := [⟨-1, [97], [], [([120], [49])]⟩, ⟨0, [], [116], []⟩, ⟨0, [98], [], []⟩, ⟨2, [], [117], []⟩, ⟨0, [], [118], []⟩, ⟨2, [99], [], []⟩]
theorem need9_wrong : rightB need9 = false := by decide +kernel
theorem need9_small : ∀ n ∈ need9, bulkN n ≤ 1000000 := by decide +kernel
theorem need9_len : (writeL need9).length ≤ 140737488355328 := by decide +kernel
def need10 : List Nd := [⟨-1, [97], [], [([120], [49])]⟩, ⟨0, [], [116], []⟩, ⟨0, [98], [], []⟩, ⟨2, [], [117], []⟩, ⟨0, [], [118], []⟩, ⟨-1, [99], [], []⟩]
theorem need10_wrong : rightB need10 = false := by decide +kernel
theorem need10_small : ∀ n ∈ need10, bulkN n ≤ 1000000 := by decide +kernel
theorem need10_len : (writeL need10).length ≤ 140737488355328 := by decide +kernel
end Nwl
namespace Go.Proofs.Ytdcgeobimenlpaa
open Nwl
open Go.RowKit Go.Maps
set_option linter.unusedVariables false
/-- nodes as cells: the first one's attributes lie at av, the others have none -/
def needL (av : Value) : List Nd → List Value
  | [] => []
  | n :: r => [.int .i64 n.parent, .string (tx n.name), .string (tx n.text), av] ++ plC r
theorem needL_ndi {B : Nat} {w : World} {av : Value} {n : Nd} {r : List Nd} (h : RowR B w av n.attrs.length 2 (attrCells n.attrs)) (hr : ∀ m ∈ r, m.attrs = []) : NdiCells B w (n :: r) (needL av (n :: r)) :=
  ⟨av, plC r, rfl, h, plC_ndi B w r hr⟩
def atC : Array Value := #[.string ⟨#[120]⟩, .string ⟨#[49]⟩]
def ndC (g : Nat) : Array Value := #[.int .i64 (-1), .string ⟨#[97]⟩, .string ⟨#[]⟩, .slice (some ⟨g, 0, none⟩) 1 1, .int .i64 0, .string ⟨#[]⟩, .string ⟨#[116]⟩, .slice none 0 0, .int .i64 0, .string ⟨#[98]⟩, .string ⟨#[]⟩, .slice none 0 0, .int .i64 2, .string ⟨#[]⟩, .string ⟨#[117]⟩, .slice none 0 0, .int .i64 0, .string ⟨#[]⟩, .string ⟨#[118]⟩, .slice none 0 0]
/-- the tree, as it lies -/
structure NeAt (w : World) (cs : Array Value) (w' : World) : Prop where
  bel : Below w.heap.size w w'
  att : Blk w' w.heap.size 23 atC
  nod : Blk w' (w.heap.size + 1) 26 cs
theorem NeAt.on {w w1 w2 : World} {cs : Array Value} (h : NeAt w cs w1) (hb : Below w1.heap.size w1 w2) : NeAt w cs w2 := ⟨h.bel.trans (hb.mono h.bel.size), h.att.below hb, h.nod.below hb⟩
theorem NeAt.set {w w1 : World} {cs : Array Value} (h : NeAt w cs w1) (i : Nat) (u : Value) : NeAt w (cs.setIfInBounds i u) (w1.setCell ⟨w.heap.size + 1, i, none⟩ u) :=
  ⟨h.bel.setCell (p := ⟨w.heap.size + 1, i, none⟩) (show w.heap.size ≤ w.heap.size + 1 by omega) u, h.att.set_far (by omega) u, h.nod.set i u⟩
theorem NeAt.row {w w1 : World} {cs : Array Value} (h : NeAt w cs w1) : RowR w1.heap.size w1 (.slice (some ⟨w.heap.size, 0, none⟩) 1 1) 1 2 (attrCells [([120], [49])]) := by
  refine ⟨rfl, .inr ⟨w.heap.size, 0, 1, rfl, h.att.lt, Nat.le_refl _, fun j u hu => ?_⟩⟩
  rw [Nat.zero_add, h.att.cell j]
  have : (attrCells [([120], [49])]).toArray = atC := rfl
  rw [← this]
  simpa using hu
theorem NeAt.nodes {w w1 : World} {cs : Array Value} {n : Nd} {r : List Nd} {cap : Nat} (h : NeAt w cs w1) (hc : cs.toList = needL (.slice (some ⟨w.heap.size, 0, none⟩) 1 1) (n :: r)) (hn : n.attrs = [([120], [49])]) (hr : ∀ m ∈ r, m.attrs = []) (hcap : (n :: r).length ≤ cap) : NodesR w1.heap.size w1 (.slice (some ⟨w.heap.size + 1, 0, none⟩) (n :: r).length cap) (n :: r) :=
  NodesR.blk h.nod h.nod.lt (by rw [hc]; exact needL_ndi (by rw [hn]; exact h.row) hr) hcap
theorem NeAt.new (w : World) : NeAt w (ndC w.heap.size) ((w.alloc (.cells atC 23)).alloc (.cells (ndC w.heap.size) 26)) := by
  have hs : (w.alloc (.cells atC 23)).heap.size = w.heap.size + 1 := by simp
  refine ⟨((Below.refl _ _).alloc (Nat.le_refl _) _).alloc (by simp) _, (Blk.new w _ _).alloc _, ?_⟩
  have := Blk.new (w.alloc (.cells atC 23)) 26 (ndC w.heap.size)
  rwa [hs] at this
theorem info_atM : (Try.prog.info? 23).map (fun i => (i.zero, i.size, i.bytes)) = some (some (.agg #[.string ⟨#[]⟩, .string ⟨#[]⟩]), 2, 32) := by kernel_rfl
theorem two_oneM (a b : ByteArray) : ∀ u ∈ [Value.string a, Value.string b], u.oneCell' = true := by
  intro u hu
  simp at hu
  rcases hu with rfl | rfl <;> rfl
theorem byte_isM (c : Int) (h : (Lit.int .u8 c).wf = true) : ∃ b : UInt8, c = (b.toNat : Int) := by
  have hx : 0 ≤ c ∧ c ≤ 255 := by simpa [Lit.wf, IntKind.min, IntKind.max, IntKind.signed, IntKind.bits] using h
  refine ⟨UInt8.ofNat c.toNat, ?_⟩
  rw [UInt8.toNat_ofNat']
  omega
theorem one_textM (w : World) (b : UInt8) : (convert 31 9 (.slice (some ⟨w.heap.size, 0, none⟩) 1 1)).run Try.prog (w.alloc (.cells #[.int .u8 (b.toNat : Int)] 5)) = .ok (.string (tx [b])) (w.alloc (.cells #[.int .u8 (b.toNat : Int)] 5)) :=
  run_convert_bytes_back (P := Try.prog) _ 31 9 5 ⟨w.heap.size, 0, none⟩ 1 [b] Try.underlying31 Try.underlying5 Try.underlying9 (fun j hj => by
    have : j = 0 := by simpa using hj
    subst this
    exact (Blk.new w 5 #[.int .u8 (b.toNat : Int)]).cell 0)
theorem rowOfBlk {w : World} {g : Nat} {cs : Array Value} {n : Nat} (h : Blk w g 23 cs) (hc : cs.size = n * 2) : RowR w.heap.size w (.slice (some ⟨g, 0, none⟩) n n) n 2 cs.toList := by
  refine ⟨by simpa using hc, .inr ⟨g, 0, n, rfl, h.lt, Nat.le_refl _, fun j u hu => ?_⟩⟩
  rw [Nat.zero_add, h.cell j]
  simpa using hu
theorem NeAt.ownA {w w1 : World} {cs : Array Value} (h : NeAt w cs w1) : w1.ownsRow w.heap.size 23 2 (.slice (some ⟨w.heap.size, 0, none⟩) 1 1) 1 [.string ⟨#[120]⟩, .string ⟨#[49]⟩] :=
  ⟨rfl, .inr ⟨w.heap.size, 1, atC, rfl, Nat.le_refl _, h.att, Nat.le_refl _, by decide, rfl, rfl⟩⟩
theorem NeAt.ownN {w w1 : World} (h : NeAt w (ndC w.heap.size) w1) : w1.ownsRow w.heap.size 26 4 (.slice (some ⟨w.heap.size + 1, 0, none⟩) 5 5) 5 (ndC w.heap.size).toList :=
  ⟨rfl, .inr ⟨w.heap.size + 1, 5, ndC w.heap.size, rfl, by omega, h.nod, Nat.le_refl _, by decide, rfl, rfl⟩⟩
/-- one node more, in a row that grew -/
theorem NeAt.more {w w1 w5 : World} {o : Obj} {v : Value} {p : Int} {nm xt : List UInt8} (h : NeAt w (ndC w.heap.size) w1) (hg : (w1.alloc o).grownBy w5 (some (w.heap.size + 1))) (ho : w5.ownsRow w.heap.size 26 4 v 6 ((ndC w.heap.size).toList ++ [.int .i64 p, .string (tx nm), .string (tx xt), .slice none 0 0])) :
    NodesR w5.heap.size w5 v (needN ++ [⟨p, nm, xt, []⟩]) ∧ Below w.heap.size w w5 := by
  have hA : Blk w5 w.heap.size 23 atC := (h.att.alloc o).grown hg (by simp)
  refine ⟨⟨_, RowR.of ho (Nat.le_refl _), ?_⟩, ?_⟩
  · exact needL_ndi (n := ⟨-1, [97], [], [([120], [49])]⟩) (r := [⟨0, [], [116], []⟩, ⟨0, [98], [], []⟩, ⟨2, [], [117], []⟩, ⟨0, [], [118], []⟩, ⟨p, nm, xt, []⟩]) (av := .slice (some ⟨w.heap.size, 0, none⟩) 1 1) (rowOfBlk hA rfl) (by simp)
  · exact (h.bel.alloc h.bel.size _).grown hg (by have := h.bel.size; simp; omega) (fun j hj => by simp at hj; omega)
theorem modN (a n : Int) (h0 : 0 < n) : 0 ≤ (IntKind.u64.wrap a).tmod n ∧ (IntKind.u64.wrap a).tmod n < n := by
  have hu : 0 ≤ IntKind.u64.wrap a := by rw [IntKind.wrap_u64]; omega
  rw [Int.tmod_eq_emod_of_nonneg hu]
  exact ⟨Int.emod_nonneg _ (by omega), Int.emod_lt_of_pos _ h0⟩

set_option maxRecDepth 100000 in
set_option maxHeartbeats 2000000 in
theorem needs_0 (a c : Int) (w : World) (hy : (IntKind.u64.wrap a).tmod 12 = 0) :
    Calls Try.prog 3 #[.int .i64 a, .int .u8 c] w fun e w' => e = .returned (.bool true) ∧ Below w.heap.size w w' := by
  have HS := Lib.hid (NeAt.new w)
  unfold ndC atC at HS
  go_enter Try.func3, Try.ntmps3
  go_wp2_with fail
  refine (awake4_c _).mono ?_
  rintro e w1 ⟨rfl, hb1⟩
  have HS1 := Lib.hid (HS.out.on hb1)
  clear hb1
  go_wp2_with fail
  refine (Right_b w1.heap.size needN _ 5 5 _ true need_right (HS1.out.nodes (cap := 5) rfl rfl (by decide) (by decide)) (Nat.le_refl _) rfl (by decide) need_small).mono ?_
  rintro e w2 ⟨rfl, hb2⟩
  have HS2 := Lib.hid (HS1.out.on hb2)
  clear hb2 HS1
  have c0 := HS2.out.nod.cell 0
  have f0 := HS2.out.nod.frozen 0
  have HS3 := Lib.hid (HS2.out.set 0 (.int .i64 0))
  have HNR : Hid (NodesR (w2.setCell ⟨w.heap.size + 1, 0, none⟩ (.int .i64 0)).heap.size (w2.setCell ⟨w.heap.size + 1, 0, none⟩ (.int .i64 0)) (.slice (some ⟨w.heap.size + 1, 0, none⟩) 5 5) need0) := Lib.hid (HS3.out.nodes (cap := 5) rfl rfl (by decide) (by decide))
  have HBW := Lib.hid HS3.out.bel
  obtain ⟨hT, hE⟩ := write_of need0_wrong
  have hws3 := HBW.out.size
  go_wp2_with fail
  refine (Write_b _ need0 _ 5 _ _ [] 6 hT hE HNR.out (Nat.le_refl _) rfl (by decide) need0_small need0_len).mono ?_
  rintro e w4 ⟨rfl, hb4⟩
  have HB4 : Hid (Below w.heap.size w w4) := Lib.hid (HBW.out.trans (hb4.mono hws3))
  have HN4 := Lib.hid (HNR.out.below hb4)
  have hs4 := hb4.size
  have hws4 := HB4.out.size
  clear hb4
  go_wp2_with fail
  refine (Right_b _ need0 _ 5 _ _ false need0_wrong HN4.out hs4 rfl (by decide) (small_of need0_small)).mono ?_
  rintro e w5 ⟨rfl, hb5⟩
  have HB5 : Hid (Below w.heap.size w w5) := Lib.hid (HB4.out.trans (hb5.mono hws4))
  clear hb5
  go_wp2_with fail
  go_ret
  exact ⟨rfl, HB5.out⟩

set_option maxRecDepth 100000 in
set_option maxHeartbeats 2000000 in
theorem needs_1 (a c : Int) (w : World) (hy : (IntKind.u64.wrap a).tmod 12 = 1) :
    Calls Try.prog 3 #[.int .i64 a, .int .u8 c] w fun e w' => e = .returned (.bool true) ∧ Below w.heap.size w w' := by
  have HS := Lib.hid (NeAt.new w)
  unfold ndC atC at HS
  go_enter Try.func3, Try.ntmps3
  go_wp2_with fail
  refine (awake4_c _).mono ?_
  rintro e w1 ⟨rfl, hb1⟩
  have HS1 := Lib.hid (HS.out.on hb1)
  clear hb1
  go_wp2_with fail
  refine (Right_b w1.heap.size needN _ 5 5 _ true need_right (HS1.out.nodes (cap := 5) rfl rfl (by decide) (by decide)) (Nat.le_refl _) rfl (by decide) need_small).mono ?_
  rintro e w2 ⟨rfl, hb2⟩
  have HS2 := Lib.hid (HS1.out.on hb2)
  clear hb2 HS1
  have c0 := HS2.out.nod.cell 9
  have f0 := HS2.out.nod.frozen 9
  have HS3 := Lib.hid (HS2.out.set 9 (.string ⟨#[49, 98]⟩))
  have HNR : Hid (NodesR (w2.setCell ⟨w.heap.size + 1, 9, none⟩ (.string ⟨#[49, 98]⟩)).heap.size (w2.setCell ⟨w.heap.size + 1, 9, none⟩ (.string ⟨#[49, 98]⟩)) (.slice (some ⟨w.heap.size + 1, 0, none⟩) 5 5) need1) := Lib.hid (HS3.out.nodes (cap := 5) rfl rfl (by decide) (by decide))
  have HBW := Lib.hid HS3.out.bel
  obtain ⟨hT, hE⟩ := write_of need1_wrong
  have hws3 := HBW.out.size
  go_wp2_with fail
  refine (Write_b _ need1 _ 5 _ _ [] 6 hT hE HNR.out (Nat.le_refl _) rfl (by decide) need1_small need1_len).mono ?_
  rintro e w4 ⟨rfl, hb4⟩
  have HB4 : Hid (Below w.heap.size w w4) := Lib.hid (HBW.out.trans (hb4.mono hws3))
  have HN4 := Lib.hid (HNR.out.below hb4)
  have hs4 := hb4.size
  have hws4 := HB4.out.size
  clear hb4
  go_wp2_with fail
  refine (Right_b _ need1 _ 5 _ _ false need1_wrong HN4.out hs4 rfl (by decide) (small_of need1_small)).mono ?_
  rintro e w5 ⟨rfl, hb5⟩
  have HB5 : Hid (Below w.heap.size w w5) := Lib.hid (HB4.out.trans (hb5.mono hws4))
  clear hb5
  go_wp2_with fail
  go_ret
  exact ⟨rfl, HB5.out⟩

set_option maxRecDepth 100000 in
set_option maxHeartbeats 2000000 in
theorem needs_2 (a c : Int) (w : World) (hy : (IntKind.u64.wrap a).tmod 12 = 2) :
    Calls Try.prog 3 #[.int .i64 a, .int .u8 c] w fun e w' => e = .returned (.bool true) ∧ Below w.heap.size w w' := by
  have HS := Lib.hid (NeAt.new w)
  unfold ndC atC at HS
  go_enter Try.func3, Try.ntmps3
  go_wp2_with fail
  refine (awake4_c _).mono ?_
  rintro e w1 ⟨rfl, hb1⟩
  have HS1 := Lib.hid (HS.out.on hb1)
  clear hb1
  go_wp2_with fail
  refine (Right_b w1.heap.size needN _ 5 5 _ true need_right (HS1.out.nodes (cap := 5) rfl rfl (by decide) (by decide)) (Nat.le_refl _) rfl (by decide) need_small).mono ?_
  rintro e w2 ⟨rfl, hb2⟩
  have HS2 := Lib.hid (HS1.out.on hb2)
  clear hb2 HS1
  have c0 := HS2.out.nod.cell 6
  have f0 := HS2.out.nod.frozen 6
  have HS3 := Lib.hid (HS2.out.set 6 (.string ⟨#[]⟩))
  have HNR : Hid (NodesR (w2.setCell ⟨w.heap.size + 1, 6, none⟩ (.string ⟨#[]⟩)).heap.size (w2.setCell ⟨w.heap.size + 1, 6, none⟩ (.string ⟨#[]⟩)) (.slice (some ⟨w.heap.size + 1, 0, none⟩) 5 5) need2) := Lib.hid (HS3.out.nodes (cap := 5) rfl rfl (by decide) (by decide))
  have HBW := Lib.hid HS3.out.bel
  obtain ⟨hT, hE⟩ := write_of need2_wrong
  have hws3 := HBW.out.size
  go_wp2_with fail
  refine (Write_b _ need2 _ 5 _ _ [] 6 hT hE HNR.out (Nat.le_refl _) rfl (by decide) need2_small need2_len).mono ?_
  rintro e w4 ⟨rfl, hb4⟩
  have HB4 : Hid (Below w.heap.size w w4) := Lib.hid (HBW.out.trans (hb4.mono hws3))
  have HN4 := Lib.hid (HNR.out.below hb4)
  have hs4 := hb4.size
  have hws4 := HB4.out.size
  clear hb4
  go_wp2_with fail
  refine (Right_b _ need2 _ 5 _ _ false need2_wrong HN4.out hs4 rfl (by decide) (small_of need2_small)).mono ?_
  rintro e w5 ⟨rfl, hb5⟩
  have HB5 : Hid (Below w.heap.size w w5) := Lib.hid (HB4.out.trans (hb5.mono hws4))
  clear hb5
  go_wp2_with fail
  go_ret
  exact ⟨rfl, HB5.out⟩

set_option maxRecDepth 100000 in
set_option maxHeartbeats 2000000 in
theorem needs_3 (a c : Int) (w : World) (hy : (IntKind.u64.wrap a).tmod 12 = 3) :
    Calls Try.prog 3 #[.int .i64 a, .int .u8 c] w fun e w' => e = .returned (.bool true) ∧ Below w.heap.size w w' := by
  have HS := Lib.hid (NeAt.new w)
  unfold ndC atC at HS
  go_enter Try.func3, Try.ntmps3
  go_wp2_with fail
  refine (awake4_c _).mono ?_
  rintro e w1 ⟨rfl, hb1⟩
  have HS1 := Lib.hid (HS.out.on hb1)
  clear hb1
  go_wp2_with fail
  refine (Right_b w1.heap.size needN _ 5 5 _ true need_right (HS1.out.nodes (cap := 5) rfl rfl (by decide) (by decide)) (Nat.le_refl _) rfl (by decide) need_small).mono ?_
  rintro e w2 ⟨rfl, hb2⟩
  have HS2 := Lib.hid (HS1.out.on hb2)
  clear hb2 HS1
  have c0 := HS2.out.nod.cell 8
  have f0 := HS2.out.nod.frozen 8
  have HS3 := Lib.hid (HS2.out.set 8 (.int .i64 1))
  have HNR : Hid (NodesR (w2.setCell ⟨w.heap.size + 1, 8, none⟩ (.int .i64 1)).heap.size (w2.setCell ⟨w.heap.size + 1, 8, none⟩ (.int .i64 1)) (.slice (some ⟨w.heap.size + 1, 0, none⟩) 5 5) need3) := Lib.hid (HS3.out.nodes (cap := 5) rfl rfl (by decide) (by decide))
  have HBW := Lib.hid HS3.out.bel
  obtain ⟨hT, hE⟩ := write_of need3_wrong
  have hws3 := HBW.out.size
  go_wp2_with fail
  refine (Write_b _ need3 _ 5 _ _ [] 6 hT hE HNR.out (Nat.le_refl _) rfl (by decide) need3_small need3_len).mono ?_
  rintro e w4 ⟨rfl, hb4⟩
  have HB4 : Hid (Below w.heap.size w w4) := Lib.hid (HBW.out.trans (hb4.mono hws3))
  have HN4 := Lib.hid (HNR.out.below hb4)
  have hs4 := hb4.size
  have hws4 := HB4.out.size
  clear hb4
  go_wp2_with fail
  refine (Right_b _ need3 _ 5 _ _ false need3_wrong HN4.out hs4 rfl (by decide) (small_of need3_small)).mono ?_
  rintro e w5 ⟨rfl, hb5⟩
  have HB5 : Hid (Below w.heap.size w w5) := Lib.hid (HB4.out.trans (hb5.mono hws4))
  clear hb5
  go_wp2_with fail
  go_ret
  exact ⟨rfl, HB5.out⟩

set_option maxRecDepth 100000 in
set_option maxHeartbeats 2000000 in
theorem needs_4 (a c : Int) (w : World) (hy : (IntKind.u64.wrap a).tmod 12 = 4) :
    Calls Try.prog 3 #[.int .i64 a, .int .u8 c] w fun e w' => e = .returned (.bool true) ∧ Below w.heap.size w w' := by
  have HS := Lib.hid (NeAt.new w)
  unfold ndC atC at HS
  go_enter Try.func3, Try.ntmps3
  go_wp2_with fail
  refine (awake4_c _).mono ?_
  rintro e w1 ⟨rfl, hb1⟩
  have HS1 := Lib.hid (HS.out.on hb1)
  clear hb1
  go_wp2_with fail
  refine (Right_b w1.heap.size needN _ 5 5 _ true need_right (HS1.out.nodes (cap := 5) rfl rfl (by decide) (by decide)) (Nat.le_refl _) rfl (by decide) need_small).mono ?_
  rintro e w2 ⟨rfl, hb2⟩
  have HS2 := Lib.hid (HS1.out.on hb2)
  clear hb2 HS1
  have c0 := HS2.out.nod.cell 10
  have f0 := HS2.out.nod.frozen 10
  have HS3 := Lib.hid (HS2.out.set 10 (.string ⟨#[119]⟩))
  have HNR : Hid (NodesR (w2.setCell ⟨w.heap.size + 1, 10, none⟩ (.string ⟨#[119]⟩)).heap.size (w2.setCell ⟨w.heap.size + 1, 10, none⟩ (.string ⟨#[119]⟩)) (.slice (some ⟨w.heap.size + 1, 0, none⟩) 5 5) need4) := Lib.hid (HS3.out.nodes (cap := 5) rfl rfl (by decide) (by decide))
  have HBW := Lib.hid HS3.out.bel
  obtain ⟨hT, hE⟩ := write_of need4_wrong
  have hws3 := HBW.out.size
  go_wp2_with fail
  refine (Write_b _ need4 _ 5 _ _ [] 6 hT hE HNR.out (Nat.le_refl _) rfl (by decide) need4_small need4_len).mono ?_
  rintro e w4 ⟨rfl, hb4⟩
  have HB4 : Hid (Below w.heap.size w w4) := Lib.hid (HBW.out.trans (hb4.mono hws3))
  have HN4 := Lib.hid (HNR.out.below hb4)
  have hs4 := hb4.size
  have hws4 := HB4.out.size
  clear hb4
  go_wp2_with fail
  refine (Right_b _ need4 _ 5 _ _ false need4_wrong HN4.out hs4 rfl (by decide) (small_of need4_small)).mono ?_
  rintro e w5 ⟨rfl, hb5⟩
  have HB5 : Hid (Below w.heap.size w w5) := Lib.hid (HB4.out.trans (hb5.mono hws4))
  clear hb5
  go_wp2_with fail
  go_ret
  exact ⟨rfl, HB5.out⟩

set_option maxRecDepth 100000 in
set_option maxHeartbeats 2000000 in
theorem needs_7 (a c : Int) (w : World) (hy : (IntKind.u64.wrap a).tmod 12 = 7) :
    Calls Try.prog 3 #[.int .i64 a, .int .u8 c] w fun e w' => e = .returned (.bool true) ∧ Below w.heap.size w w' := by
  have HS := Lib.hid (NeAt.new w)
  unfold ndC atC at HS
  go_enter Try.func3, Try.ntmps3
  go_wp2_with fail
  refine (awake4_c _).mono ?_
  rintro e w1 ⟨rfl, hb1⟩
  have HS1 := Lib.hid (HS.out.on hb1)
  clear hb1
  go_wp2_with fail
  refine (Right_b w1.heap.size needN _ 5 5 _ true need_right (HS1.out.nodes (cap := 5) rfl rfl (by decide) (by decide)) (Nat.le_refl _) rfl (by decide) need_small).mono ?_
  rintro e w2 ⟨rfl, hb2⟩
  have HS2 := Lib.hid (HS1.out.on hb2)
  clear hb2 HS1
  have c0 := HS2.out.nod.cell 16
  have f0 := HS2.out.nod.frozen 16
  have HS3 := Lib.hid (HS2.out.set 16 (.int .i64 3))
  have HNR : Hid (NodesR (w2.setCell ⟨w.heap.size + 1, 16, none⟩ (.int .i64 3)).heap.size (w2.setCell ⟨w.heap.size + 1, 16, none⟩ (.int .i64 3)) (.slice (some ⟨w.heap.size + 1, 0, none⟩) 5 5) need7) := Lib.hid (HS3.out.nodes (cap := 5) rfl rfl (by decide) (by decide))
  have HBW := Lib.hid HS3.out.bel
  obtain ⟨hT, hE⟩ := write_of need7_wrong
  have hws3 := HBW.out.size
  go_wp2_with fail
  refine (Write_b _ need7 _ 5 _ _ [] 6 hT hE HNR.out (Nat.le_refl _) rfl (by decide) need7_small need7_len).mono ?_
  rintro e w4 ⟨rfl, hb4⟩
  have HB4 : Hid (Below w.heap.size w w4) := Lib.hid (HBW.out.trans (hb4.mono hws3))
  have HN4 := Lib.hid (HNR.out.below hb4)
  have hs4 := hb4.size
  have hws4 := HB4.out.size
  clear hb4
  go_wp2_with fail
  refine (Right_b _ need7 _ 5 _ _ false need7_wrong HN4.out hs4 rfl (by decide) (small_of need7_small)).mono ?_
  rintro e w5 ⟨rfl, hb5⟩
  have HB5 : Hid (Below w.heap.size w w5) := Lib.hid (HB4.out.trans (hb5.mono hws4))
  clear hb5
  go_wp2_with fail
  go_ret
  exact ⟨rfl, HB5.out⟩

set_option maxRecDepth 100000 in
set_option maxHeartbeats 2000000 in
theorem needs_5 (a c : Int) (w : World) (hy : (IntKind.u64.wrap a).tmod 12 = 5) :
    Calls Try.prog 3 #[.int .i64 a, .int .u8 c] w fun e w' => e = .returned (.bool true) ∧ Below w.heap.size w w' := by
  have HS := Lib.hid (NeAt.new w)
  unfold ndC atC at HS
  go_enter Try.func3, Try.ntmps3
  go_wp2_with fail
  refine (awake4_c _).mono ?_
  rintro e w1 ⟨rfl, hb1⟩
  have HS1 := Lib.hid (HS.out.on hb1)
  clear hb1
  go_wp2_with fail
  refine (Right_b w1.heap.size needN _ 5 5 _ true need_right (HS1.out.nodes (cap := 5) rfl rfl (by decide) (by decide)) (Nat.le_refl _) rfl (by decide) need_small).mono ?_
  rintro e w2 ⟨rfl, hb2⟩
  have HS2 := Lib.hid (HS1.out.on hb2)
  clear hb2 HS1
  have HS2' := Lib.hid (HS2.out.on ((Below.refl _ _).alloc (Nat.le_refl _) (.cells #[.string ⟨#[121]⟩, .string ⟨#[]⟩] 23)))
  have c7 := HS2'.out.nod.cell 7
  have f7 := HS2'.out.nod.frozen 7
  have HS3 := Lib.hid (HS2'.out.set 7 (.slice (some ⟨w2.heap.size, 0, none⟩) 1 1))
  have h12 : w.heap.size + 1 ≠ w2.heap.size := by have := HS2.out.nod.lt; omega
  have HA1 : Hid (Blk ((w2.alloc (.cells #[.string ⟨#[121]⟩, .string ⟨#[]⟩] 23)).setCell ⟨w.heap.size + 1, 7, none⟩ (.slice (some ⟨w2.heap.size, 0, none⟩) 1 1)) w2.heap.size 23 #[.string ⟨#[121]⟩, .string ⟨#[]⟩]) := Lib.hid ((Blk.new w2 _ _).set_far h12.symm _)
  have HNR : Hid (NodesR ((w2.alloc (.cells #[.string ⟨#[121]⟩, .string ⟨#[]⟩] 23)).setCell ⟨w.heap.size + 1, 7, none⟩ (.slice (some ⟨w2.heap.size, 0, none⟩) 1 1)).heap.size ((w2.alloc (.cells #[.string ⟨#[121]⟩, .string ⟨#[]⟩] 23)).setCell ⟨w.heap.size + 1, 7, none⟩ (.slice (some ⟨w2.heap.size, 0, none⟩) 1 1)) (.slice (some ⟨w.heap.size + 1, 0, none⟩) 5 5) need5) := Lib.hid (NodesR.blk (ns := need5) (cap := 5) HS3.out.nod HS3.out.nod.lt ⟨_, _, rfl, HS3.out.row, _, _, rfl, rowOfBlk HA1.out rfl, plC_ndi _ _ [⟨0, [98], [], []⟩, ⟨2, [], [117], []⟩, ⟨0, [], [118], []⟩] (by decide)⟩ (by decide))
  have HBW := Lib.hid HS3.out.bel
  obtain ⟨hT, hE⟩ := write_of need5_wrong
  have hws3 := HBW.out.size
  go_wp2_with fail
  refine (Write_b _ need5 _ 5 _ _ [] 6 hT hE HNR.out (Nat.le_refl _) rfl (by decide) need5_small need5_len).mono ?_
  rintro e w4 ⟨rfl, hb4⟩
  have HB4 : Hid (Below w.heap.size w w4) := Lib.hid (HBW.out.trans (hb4.mono hws3))
  have HN4 := Lib.hid (HNR.out.below hb4)
  have hs4 := hb4.size
  have hws4 := HB4.out.size
  clear hb4
  go_wp2_with fail
  refine (Right_b _ need5 _ 5 _ _ false need5_wrong HN4.out hs4 rfl (by decide) (small_of need5_small)).mono ?_
  rintro e w5 ⟨rfl, hb5⟩
  have HB5 : Hid (Below w.heap.size w w5) := Lib.hid (HB4.out.trans (hb5.mono hws4))
  clear hb5
  go_wp2_with fail
  go_ret
  exact ⟨rfl, HB5.out⟩

set_option maxRecDepth 100000 in
set_option maxHeartbeats 2000000 in
theorem needs_6 (a c : Int) (w : World) (hy : (IntKind.u64.wrap a).tmod 12 = 6) :
    Calls Try.prog 3 #[.int .i64 a, .int .u8 c] w fun e w' => e = .returned (.bool true) ∧ Below w.heap.size w w' := by
  have HS := Lib.hid (NeAt.new w)
  unfold ndC atC at HS
  go_enter Try.func3, Try.ntmps3
  go_wp2_with fail
  refine (awake4_c _).mono ?_
  rintro e w1 ⟨rfl, hb1⟩
  have HS1 := Lib.hid (HS.out.on hb1)
  clear hb1
  go_wp2_with fail
  refine (Right_b w1.heap.size needN _ 5 5 _ true need_right (HS1.out.nodes (cap := 5) rfl rfl (by decide) (by decide)) (Nat.le_refl _) rfl (by decide) need_small).mono ?_
  rintro e w2 ⟨rfl, hb2⟩
  have HS2 := Lib.hid (HS1.out.on hb2)
  clear hb2 HS1
  obtain ⟨i0, hi, hz0, hz1, hz2⟩ := info_parts info_atM
  have c3 := HS2.out.nod.cell 3
  have c3' := (HS2.out.nod.alloc (.cells #[.string ⟨#[120]⟩, .string ⟨#[]⟩] 23)).cell 3
  have hsz := HS2.out.bel.size
  go_wp2_with (at_builtin; refine wpList_append_own _ rfl _ _ 24 rfl w.heap.size 23 i0 _ 2 32 Try.underlying24 hi hz0 hz1 hz2 rfl (by decide) _ 1 [.string ⟨#[120]⟩, .string ⟨#[49]⟩] rfl (HS2.out.ownA.alloc _) ⟨w2.heap.size, 0, none⟩ 1 1 [.string ⟨#[120]⟩, .string ⟨#[]⟩] rfl rfl (cells_two_new _ _ _ _) (two_oneM _ _) (by decide) (by decide) (by simp; omega) ?_)
  intro v' w5 hown5 hgrow5 _
  have hN5 : Blk w5 (w.heap.size + 1) 26 (ndC w.heap.size) := (HS2.out.nod.alloc _).grown hgrow5 (by simp [Value.ownBlock])
  have HB5 : Hid (Below w.heap.size w w5) := Lib.hid ((HS2.out.bel.alloc hsz _).grown hgrow5 (by simp; omega) (fun j hj => by simp [Value.ownBlock] at hj; omega))
  have d3 := hN5.cell 3
  have f3 := hN5.frozen 3
  obtain ⟨A5, c5, rfl⟩ : ∃ A c, v' = .slice A 2 c := own_form hown5
  have HNR : Hid (NodesR (w5.setCell ⟨w.heap.size + 1, 3, none⟩ (.slice A5 2 c5)).heap.size (w5.setCell ⟨w.heap.size + 1, 3, none⟩ (.slice A5 2 c5)) (.slice (some ⟨w.heap.size + 1, 0, none⟩) 5 5) need6) := Lib.hid (NodesR.blk (ns := need6) (cap := 5) (hN5.set 3 _) (hN5.set 3 (.slice A5 2 c5)).lt ⟨_, _, rfl, RowR.of (hown5.kept (setCell_grown w5 (w.heap.size + 1) 3 _) (.inr (own_ne hown5 hN5 (by decide)))) (Nat.le_refl _), plC_ndi _ _ [⟨0, [], [116], []⟩, ⟨0, [98], [], []⟩, ⟨2, [], [117], []⟩, ⟨0, [], [118], []⟩] (by decide)⟩ (by decide))
  have HBW : Hid (Below w.heap.size w (w5.setCell ⟨w.heap.size + 1, 3, none⟩ (.slice A5 2 c5))) := Lib.hid (HB5.out.setCell (p := ⟨w.heap.size + 1, 3, none⟩) (show w.heap.size ≤ w.heap.size + 1 by omega) _)
  clear hown5 hgrow5 hN5
  obtain ⟨hT, hE⟩ := write_of need6_wrong
  have hws3 := HBW.out.size
  go_wp2_with fail
  refine (Write_b _ need6 _ 5 _ _ [] 6 hT hE HNR.out (Nat.le_refl _) rfl (by decide) need6_small need6_len).mono ?_
  rintro e w4 ⟨rfl, hb4⟩
  have HB4 : Hid (Below w.heap.size w w4) := Lib.hid (HBW.out.trans (hb4.mono hws3))
  have HN4 := Lib.hid (HNR.out.below hb4)
  have hs4 := hb4.size
  have hws4 := HB4.out.size
  clear hb4
  go_wp2_with fail
  refine (Right_b _ need6 _ 5 _ _ false need6_wrong HN4.out hs4 rfl (by decide) (small_of need6_small)).mono ?_
  rintro e w7 ⟨rfl, hb5⟩
  have HB7 : Hid (Below w.heap.size w w7) := Lib.hid (HB4.out.trans (hb5.mono hws4))
  clear hb5
  go_wp2_with fail
  go_ret
  exact ⟨rfl, HB7.out⟩

set_option maxRecDepth 100000 in
set_option maxHeartbeats 2000000 in
theorem needs_8 (a c : Int) (w : World) (hy : (IntKind.u64.wrap a).tmod 12 = 8) :
    Calls Try.prog 3 #[.int .i64 a, .int .u8 c] w fun e w' => e = .returned (.bool true) ∧ Below w.heap.size w w' := by
  have HS := Lib.hid (NeAt.new w)
  unfold ndC atC at HS
  go_enter Try.func3, Try.ntmps3
  go_wp2_with fail
  refine (awake4_c _).mono ?_
  rintro e w1 ⟨rfl, hb1⟩
  have HS1 := Lib.hid (HS.out.on hb1)
  clear hb1
  go_wp2_with fail
  refine (Right_b w1.heap.size needN _ 5 5 _ true need_right (HS1.out.nodes (cap := 5) rfl rfl (by decide) (by decide)) (Nat.le_refl _) rfl (by decide) need_small).mono ?_
  rintro e w2 ⟨rfl, hb2⟩
  have HS2 := Lib.hid (HS1.out.on hb2)
  clear hb2 HS1
  obtain ⟨i0, hi, hz0, hz1, hz2⟩ := info_parts info_nd
  have hsz := HS2.out.bel.size
  go_wp2_with (at_builtin; refine wpList_append_own _ rfl _ _ 27 rfl w.heap.size 26 i0 _ 4 64 Try.underlying27 hi hz0 hz1 hz2 rfl (by decide) _ 5 (ndC w.heap.size).toList rfl (NeAt.ownN HS2.out |>.alloc _) ⟨w2.heap.size, 0, none⟩ 1 1 [.int .i64 (0), .string ⟨#[]⟩, .string ⟨#[119]⟩, .slice none 0 0] rfl rfl (cells_four_new _ _ _ _ _ _) (four_oneCell _ _ _ _ _ _) (by decide) (by decide) (by simp; omega) ?_)
  intro v' w5 hown5 hgrow5 _
  obtain ⟨hnr, hbw⟩ := NeAt.more (p := 0) (nm := []) (xt := [119]) HS2.out hgrow5 hown5
  have HNR : Hid (NodesR w5.heap.size w5 v' need8) := Lib.hid hnr
  have HBW := Lib.hid hbw
  obtain ⟨A5, c5, rfl⟩ : ∃ A c, v' = .slice A 6 c := own_form hown5
  clear hown5 hgrow5 hnr hbw
  obtain ⟨hT, hE⟩ := write_of need8_wrong
  have hws3 := HBW.out.size
  go_wp2_with fail
  refine (Write_b _ need8 _ 6 _ _ [] 6 hT hE HNR.out (Nat.le_refl _) rfl (by decide) need8_small need8_len).mono ?_
  rintro e w4 ⟨rfl, hb4⟩
  have HB4 : Hid (Below w.heap.size w w4) := Lib.hid (HBW.out.trans (hb4.mono hws3))
  have HN4 := Lib.hid (HNR.out.below hb4)
  have hs4 := hb4.size
  have hws4 := HB4.out.size
  clear hb4
  go_wp2_with fail
  refine (Right_b _ need8 _ 6 _ _ false need8_wrong HN4.out hs4 rfl (by decide) (small_of need8_small)).mono ?_
  rintro e w7 ⟨rfl, hb5⟩
  have HB7 : Hid (Below w.heap.size w w7) := Lib.hid (HB4.out.trans (hb5.mono hws4))
  clear hb5
  go_wp2_with fail
  go_ret
  exact ⟨rfl, HB7.out⟩

set_option maxRecDepth 100000 in
set_option maxHeartbeats 2000000 in
theorem needs_9 (a c : Int) (w : World) (hy : (IntKind.u64.wrap a).tmod 12 = 9) :
    Calls Try.prog 3 #[.int .i64 a, .int .u8 c] w fun e w' => e = .returned (.bool true) ∧ Below w.heap.size w w' := by
  have HS := Lib.hid (NeAt.new w)
  unfold ndC atC at HS
  go_enter Try.func3, Try.ntmps3
  go_wp2_with fail
  refine (awake4_c _).mono ?_
  rintro e w1 ⟨rfl, hb1⟩
  have HS1 := Lib.hid (HS.out.on hb1)
  clear hb1
  go_wp2_with fail
  refine (Right_b w1.heap.size needN _ 5 5 _ true need_right (HS1.out.nodes (cap := 5) rfl rfl (by decide) (by decide)) (Nat.le_refl _) rfl (by decide) need_small).mono ?_
  rintro e w2 ⟨rfl, hb2⟩
  have HS2 := Lib.hid (HS1.out.on hb2)
  clear hb2 HS1
  obtain ⟨i0, hi, hz0, hz1, hz2⟩ := info_parts info_nd
  have hsz := HS2.out.bel.size
  go_wp2_with (at_builtin; refine wpList_append_own _ rfl _ _ 27 rfl w.heap.size 26 i0 _ 4 64 Try.underlying27 hi hz0 hz1 hz2 rfl (by decide) _ 5 (ndC w.heap.size).toList rfl (NeAt.ownN HS2.out |>.alloc _) ⟨w2.heap.size, 0, none⟩ 1 1 [.int .i64 (2), .string ⟨#[99]⟩, .string ⟨#[]⟩, .slice none 0 0] rfl rfl (cells_four_new _ _ _ _ _ _) (four_oneCell _ _ _ _ _ _) (by decide) (by decide) (by simp; omega) ?_)
  intro v' w5 hown5 hgrow5 _
  obtain ⟨hnr, hbw⟩ := NeAt.more (p := 2) (nm := [99]) (xt := []) HS2.out hgrow5 hown5
  have HNR : Hid (NodesR w5.heap.size w5 v' need9) := Lib.hid hnr
  have HBW := Lib.hid hbw
  obtain ⟨A5, c5, rfl⟩ : ∃ A c, v' = .slice A 6 c := own_form hown5
  clear hown5 hgrow5 hnr hbw
  obtain ⟨hT, hE⟩ := write_of need9_wrong
  have hws3 := HBW.out.size
  go_wp2_with fail
  refine (Write_b _ need9 _ 6 _ _ [] 6 hT hE HNR.out (Nat.le_refl _) rfl (by decide) need9_small need9_len).mono ?_
  rintro e w4 ⟨rfl, hb4⟩
  have HB4 : Hid (Below w.heap.size w w4) := Lib.hid (HBW.out.trans (hb4.mono hws3))
  have HN4 := Lib.hid (HNR.out.below hb4)
  have hs4 := hb4.size
  have hws4 := HB4.out.size
  clear hb4
  go_wp2_with fail
  refine (Right_b _ need9 _ 6 _ _ false need9_wrong HN4.out hs4 rfl (by decide) (small_of need9_small)).mono ?_
  rintro e w7 ⟨rfl, hb5⟩
  have HB7 : Hid (Below w.heap.size w w7) := Lib.hid (HB4.out.trans (hb5.mono hws4))
  clear hb5
  go_wp2_with fail
  go_ret
  exact ⟨rfl, HB7.out⟩

set_option maxRecDepth 100000 in
set_option maxHeartbeats 2000000 in
theorem needs_10 (a c : Int) (w : World) (hy : (IntKind.u64.wrap a).tmod 12 = 10) :
    Calls Try.prog 3 #[.int .i64 a, .int .u8 c] w fun e w' => e = .returned (.bool true) ∧ Below w.heap.size w w' := by
  have HS := Lib.hid (NeAt.new w)
  unfold ndC atC at HS
  go_enter Try.func3, Try.ntmps3
  go_wp2_with fail
  refine (awake4_c _).mono ?_
  rintro e w1 ⟨rfl, hb1⟩
  have HS1 := Lib.hid (HS.out.on hb1)
  clear hb1
  go_wp2_with fail
  refine (Right_b w1.heap.size needN _ 5 5 _ true need_right (HS1.out.nodes (cap := 5) rfl rfl (by decide) (by decide)) (Nat.le_refl _) rfl (by decide) need_small).mono ?_
  rintro e w2 ⟨rfl, hb2⟩
  have HS2 := Lib.hid (HS1.out.on hb2)
  clear hb2 HS1
  obtain ⟨i0, hi, hz0, hz1, hz2⟩ := info_parts info_nd
  have hsz := HS2.out.bel.size
  go_wp2_with (at_builtin; refine wpList_append_own _ rfl _ _ 27 rfl w.heap.size 26 i0 _ 4 64 Try.underlying27 hi hz0 hz1 hz2 rfl (by decide) _ 5 (ndC w.heap.size).toList rfl (NeAt.ownN HS2.out |>.alloc _) ⟨w2.heap.size, 0, none⟩ 1 1 [.int .i64 (-1), .string ⟨#[99]⟩, .string ⟨#[]⟩, .slice none 0 0] rfl rfl (cells_four_new _ _ _ _ _ _) (four_oneCell _ _ _ _ _ _) (by decide) (by decide) (by simp; omega) ?_)
  intro v' w5 hown5 hgrow5 _
  obtain ⟨hnr, hbw⟩ := NeAt.more (p := -1) (nm := [99]) (xt := []) HS2.out hgrow5 hown5
  have HNR : Hid (NodesR w5.heap.size w5 v' need10) := Lib.hid hnr
  have HBW := Lib.hid hbw
  obtain ⟨A5, c5, rfl⟩ : ∃ A c, v' = .slice A 6 c := own_form hown5
  clear hown5 hgrow5 hnr hbw
  obtain ⟨hT, hE⟩ := write_of need10_wrong
  have hws3 := HBW.out.size
  go_wp2_with fail
  refine (Write_b _ need10 _ 6 _ _ [] 6 hT hE HNR.out (Nat.le_refl _) rfl (by decide) need10_small need10_len).mono ?_
  rintro e w4 ⟨rfl, hb4⟩
  have HB4 : Hid (Below w.heap.size w w4) := Lib.hid (HBW.out.trans (hb4.mono hws3))
  have HN4 := Lib.hid (HNR.out.below hb4)
  have hs4 := hb4.size
  have hws4 := HB4.out.size
  clear hb4
  go_wp2_with fail
  refine (Right_b _ need10 _ 6 _ _ false need10_wrong HN4.out hs4 rfl (by decide) (small_of need10_small)).mono ?_
  rintro e w7 ⟨rfl, hb5⟩
  have HB7 : Hid (Below w.heap.size w w7) := Lib.hid (HB4.out.trans (hb5.mono hws4))
  clear hb5
  go_wp2_with fail
  go_ret
  exact ⟨rfl, HB7.out⟩

set_option maxRecDepth 100000 in
set_option maxHeartbeats 2000000 in
theorem needs_11a (a c : Int) (w : World) (hy : (IntKind.u64.wrap a).tmod 12 = 11) (hc : 32 ≤ c) :
    Calls Try.prog 3 #[.int .i64 a, .int .u8 c] w fun e w' => e = .returned (.bool true) ∧ Below w.heap.size w w' := by
  have hbad : allowedI ((1 : UInt8).toNat : Int) = false := by decide
  have hlenb := need11_len 1
  have HS := Lib.hid (NeAt.new w)
  unfold ndC atC at HS
  go_enter Try.func3, Try.ntmps3
  go_wp2_with fail
  refine (awake4_c _).mono ?_
  rintro e w1 ⟨rfl, hb1⟩
  have HS1 := Lib.hid (HS.out.on hb1)
  clear hb1
  go_wp2_with fail
  refine (Right_b w1.heap.size needN _ 5 5 _ true need_right (HS1.out.nodes (cap := 5) rfl rfl (by decide) (by decide)) (Nat.le_refl _) rfl (by decide) need_small).mono ?_
  rintro e w2 ⟨rfl, hb2⟩
  have HS2 := Lib.hid (HS1.out.on hb2)
  clear hb2 HS1
  have hconv : (convert 31 9 (.slice (some ⟨w2.heap.size, 0, none⟩) 1 1)).run Try.prog (w2.alloc (.cells #[.int .u8 1] 5)) = .ok (.string (tx [1])) (w2.alloc (.cells #[.int .u8 1] 5)) := one_textM w2 1
  have HS2' := Lib.hid (HS2.out.on ((Below.refl _ _).alloc (Nat.le_refl _) (.cells #[.int .u8 1] 5)))
  have c6 := HS2'.out.nod.cell 6
  have f6 := HS2'.out.nod.frozen 6
  have HS3 := Lib.hid (HS2'.out.set 6 (.string (tx [1])))
  have HNR : Hid (NodesR ((w2.alloc (.cells #[.int .u8 1] 5)).setCell ⟨w.heap.size + 1, 6, none⟩ (.string (tx [1]))).heap.size ((w2.alloc (.cells #[.int .u8 1] 5)).setCell ⟨w.heap.size + 1, 6, none⟩ (.string (tx [1]))) (.slice (some ⟨w.heap.size + 1, 0, none⟩) 5 5) (need11 1)) := Lib.hid (HS3.out.nodes (cap := 5) rfl rfl (by simp) (by simp))
  have HBW := Lib.hid HS3.out.bel
  obtain ⟨hT, hE⟩ := write_of (need11_wrong hbad)
  have hws3 := HBW.out.size
  go_wp2_with fail
  refine (Write_b _ (need11 1) _ 5 _ _ [] 6 hT hE HNR.out (Nat.le_refl _) (by rfl) (by decide) (need11_small 1) hlenb).mono ?_
  rintro e w4 ⟨rfl, hb4⟩
  have HB4 : Hid (Below w.heap.size w w4) := Lib.hid (HBW.out.trans (hb4.mono hws3))
  have HN4 := Lib.hid (HNR.out.below hb4)
  have hs4 := hb4.size
  have hws4 := HB4.out.size
  clear hb4
  go_wp2_with fail
  refine (Right_b _ (need11 1) _ 5 _ _ false (need11_wrong hbad) HN4.out hs4 (by rfl) (by decide) (small_of (need11_small 1))).mono ?_
  rintro e w5 ⟨rfl, hb5⟩
  have HB5 : Hid (Below w.heap.size w w5) := Lib.hid (HB4.out.trans (hb5.mono hws4))
  clear hb5
  go_wp2_with fail
  go_ret
  exact ⟨rfl, HB5.out⟩

set_option maxRecDepth 100000 in
set_option maxHeartbeats 2000000 in
theorem needs_11c (a c : Int) (w : World) (hy : (IntKind.u64.wrap a).tmod 12 = 11) (hc : c = 9) :
    Calls Try.prog 3 #[.int .i64 a, .int .u8 c] w fun e w' => e = .returned (.bool true) ∧ Below w.heap.size w w' := by
  have hbad : allowedI ((1 : UInt8).toNat : Int) = false := by decide
  have hlenb := need11_len 1
  subst hc
  have HS := Lib.hid (NeAt.new w)
  unfold ndC atC at HS
  go_enter Try.func3, Try.ntmps3
  go_wp2_with fail
  refine (awake4_c _).mono ?_
  rintro e w1 ⟨rfl, hb1⟩
  have HS1 := Lib.hid (HS.out.on hb1)
  clear hb1
  go_wp2_with fail
  refine (Right_b w1.heap.size needN _ 5 5 _ true need_right (HS1.out.nodes (cap := 5) rfl rfl (by decide) (by decide)) (Nat.le_refl _) rfl (by decide) need_small).mono ?_
  rintro e w2 ⟨rfl, hb2⟩
  have HS2 := Lib.hid (HS1.out.on hb2)
  clear hb2 HS1
  have hconv : (convert 31 9 (.slice (some ⟨w2.heap.size, 0, none⟩) 1 1)).run Try.prog (w2.alloc (.cells #[.int .u8 1] 5)) = .ok (.string (tx [1])) (w2.alloc (.cells #[.int .u8 1] 5)) := one_textM w2 1
  have HS2' := Lib.hid (HS2.out.on ((Below.refl _ _).alloc (Nat.le_refl _) (.cells #[.int .u8 1] 5)))
  have c6 := HS2'.out.nod.cell 6
  have f6 := HS2'.out.nod.frozen 6
  have HS3 := Lib.hid (HS2'.out.set 6 (.string (tx [1])))
  have HNR : Hid (NodesR ((w2.alloc (.cells #[.int .u8 1] 5)).setCell ⟨w.heap.size + 1, 6, none⟩ (.string (tx [1]))).heap.size ((w2.alloc (.cells #[.int .u8 1] 5)).setCell ⟨w.heap.size + 1, 6, none⟩ (.string (tx [1]))) (.slice (some ⟨w.heap.size + 1, 0, none⟩) 5 5) (need11 1)) := Lib.hid (HS3.out.nodes (cap := 5) rfl rfl (by simp) (by simp))
  have HBW := Lib.hid HS3.out.bel
  obtain ⟨hT, hE⟩ := write_of (need11_wrong hbad)
  have hws3 := HBW.out.size
  go_wp2_with fail
  refine (Write_b _ (need11 1) _ 5 _ _ [] 6 hT hE HNR.out (Nat.le_refl _) (by rfl) (by decide) (need11_small 1) hlenb).mono ?_
  rintro e w4 ⟨rfl, hb4⟩
  have HB4 : Hid (Below w.heap.size w w4) := Lib.hid (HBW.out.trans (hb4.mono hws3))
  have HN4 := Lib.hid (HNR.out.below hb4)
  have hs4 := hb4.size
  have hws4 := HB4.out.size
  clear hb4
  go_wp2_with fail
  refine (Right_b _ (need11 1) _ 5 _ _ false (need11_wrong hbad) HN4.out hs4 (by rfl) (by decide) (small_of (need11_small 1))).mono ?_
  rintro e w5 ⟨rfl, hb5⟩
  have HB5 : Hid (Below w.heap.size w w5) := Lib.hid (HB4.out.trans (hb5.mono hws4))
  clear hb5
  go_wp2_with fail
  go_ret
  exact ⟨rfl, HB5.out⟩

set_option maxRecDepth 100000 in
set_option maxHeartbeats 2000000 in
theorem needs_11d (a c : Int) (w : World) (hy : (IntKind.u64.wrap a).tmod 12 = 11) (hc : c = 10) :
    Calls Try.prog 3 #[.int .i64 a, .int .u8 c] w fun e w' => e = .returned (.bool true) ∧ Below w.heap.size w w' := by
  have hbad : allowedI ((1 : UInt8).toNat : Int) = false := by decide
  have hlenb := need11_len 1
  subst hc
  have HS := Lib.hid (NeAt.new w)
  unfold ndC atC at HS
  go_enter Try.func3, Try.ntmps3
  go_wp2_with fail
  refine (awake4_c _).mono ?_
  rintro e w1 ⟨rfl, hb1⟩
  have HS1 := Lib.hid (HS.out.on hb1)
  clear hb1
  go_wp2_with fail
  refine (Right_b w1.heap.size needN _ 5 5 _ true need_right (HS1.out.nodes (cap := 5) rfl rfl (by decide) (by decide)) (Nat.le_refl _) rfl (by decide) need_small).mono ?_
  rintro e w2 ⟨rfl, hb2⟩
  have HS2 := Lib.hid (HS1.out.on hb2)
  clear hb2 HS1
  have hconv : (convert 31 9 (.slice (some ⟨w2.heap.size, 0, none⟩) 1 1)).run Try.prog (w2.alloc (.cells #[.int .u8 1] 5)) = .ok (.string (tx [1])) (w2.alloc (.cells #[.int .u8 1] 5)) := one_textM w2 1
  have HS2' := Lib.hid (HS2.out.on ((Below.refl _ _).alloc (Nat.le_refl _) (.cells #[.int .u8 1] 5)))
  have c6 := HS2'.out.nod.cell 6
  have f6 := HS2'.out.nod.frozen 6
  have HS3 := Lib.hid (HS2'.out.set 6 (.string (tx [1])))
  have HNR : Hid (NodesR ((w2.alloc (.cells #[.int .u8 1] 5)).setCell ⟨w.heap.size + 1, 6, none⟩ (.string (tx [1]))).heap.size ((w2.alloc (.cells #[.int .u8 1] 5)).setCell ⟨w.heap.size + 1, 6, none⟩ (.string (tx [1]))) (.slice (some ⟨w.heap.size + 1, 0, none⟩) 5 5) (need11 1)) := Lib.hid (HS3.out.nodes (cap := 5) rfl rfl (by simp) (by simp))
  have HBW := Lib.hid HS3.out.bel
  obtain ⟨hT, hE⟩ := write_of (need11_wrong hbad)
  have hws3 := HBW.out.size
  go_wp2_with fail
  refine (Write_b _ (need11 1) _ 5 _ _ [] 6 hT hE HNR.out (Nat.le_refl _) (by rfl) (by decide) (need11_small 1) hlenb).mono ?_
  rintro e w4 ⟨rfl, hb4⟩
  have HB4 : Hid (Below w.heap.size w w4) := Lib.hid (HBW.out.trans (hb4.mono hws3))
  have HN4 := Lib.hid (HNR.out.below hb4)
  have hs4 := hb4.size
  have hws4 := HB4.out.size
  clear hb4
  go_wp2_with fail
  refine (Right_b _ (need11 1) _ 5 _ _ false (need11_wrong hbad) HN4.out hs4 (by rfl) (by decide) (small_of (need11_small 1))).mono ?_
  rintro e w5 ⟨rfl, hb5⟩
  have HB5 : Hid (Below w.heap.size w w5) := Lib.hid (HB4.out.trans (hb5.mono hws4))
  clear hb5
  go_wp2_with fail
  go_ret
  exact ⟨rfl, HB5.out⟩

set_option maxRecDepth 100000 in
set_option maxHeartbeats 2000000 in
theorem needs_11e (a c : Int) (w : World) (hy : (IntKind.u64.wrap a).tmod 12 = 11) (hc : c = 13) :
    Calls Try.prog 3 #[.int .i64 a, .int .u8 c] w fun e w' => e = .returned (.bool true) ∧ Below w.heap.size w w' := by
  have hbad : allowedI ((1 : UInt8).toNat : Int) = false := by decide
  have hlenb := need11_len 1
  subst hc
  have HS := Lib.hid (NeAt.new w)
  unfold ndC atC at HS
  go_enter Try.func3, Try.ntmps3
  go_wp2_with fail
  refine (awake4_c _).mono ?_
  rintro e w1 ⟨rfl, hb1⟩
  have HS1 := Lib.hid (HS.out.on hb1)
  clear hb1
  go_wp2_with fail
  refine (Right_b w1.heap.size needN _ 5 5 _ true need_right (HS1.out.nodes (cap := 5) rfl rfl (by decide) (by decide)) (Nat.le_refl _) rfl (by decide) need_small).mono ?_
  rintro e w2 ⟨rfl, hb2⟩
  have HS2 := Lib.hid (HS1.out.on hb2)
  clear hb2 HS1
  have hconv : (convert 31 9 (.slice (some ⟨w2.heap.size, 0, none⟩) 1 1)).run Try.prog (w2.alloc (.cells #[.int .u8 1] 5)) = .ok (.string (tx [1])) (w2.alloc (.cells #[.int .u8 1] 5)) := one_textM w2 1
  have HS2' := Lib.hid (HS2.out.on ((Below.refl _ _).alloc (Nat.le_refl _) (.cells #[.int .u8 1] 5)))
  have c6 := HS2'.out.nod.cell 6
  have f6 := HS2'.out.nod.frozen 6
  have HS3 := Lib.hid (HS2'.out.set 6 (.string (tx [1])))
  have HNR : Hid (NodesR ((w2.alloc (.cells #[.int .u8 1] 5)).setCell ⟨w.heap.size + 1, 6, none⟩ (.string (tx [1]))).heap.size ((w2.alloc (.cells #[.int .u8 1] 5)).setCell ⟨w.heap.size + 1, 6, none⟩ (.string (tx [1]))) (.slice (some ⟨w.heap.size + 1, 0, none⟩) 5 5) (need11 1)) := Lib.hid (HS3.out.nodes (cap := 5) rfl rfl (by simp) (by simp))
  have HBW := Lib.hid HS3.out.bel
  obtain ⟨hT, hE⟩ := write_of (need11_wrong hbad)
  have hws3 := HBW.out.size
  go_wp2_with fail
  refine (Write_b _ (need11 1) _ 5 _ _ [] 6 hT hE HNR.out (Nat.le_refl _) (by rfl) (by decide) (need11_small 1) hlenb).mono ?_
  rintro e w4 ⟨rfl, hb4⟩
  have HB4 : Hid (Below w.heap.size w w4) := Lib.hid (HBW.out.trans (hb4.mono hws3))
  have HN4 := Lib.hid (HNR.out.below hb4)
  have hs4 := hb4.size
  have hws4 := HB4.out.size
  clear hb4
  go_wp2_with fail
  refine (Right_b _ (need11 1) _ 5 _ _ false (need11_wrong hbad) HN4.out hs4 (by rfl) (by decide) (small_of (need11_small 1))).mono ?_
  rintro e w5 ⟨rfl, hb5⟩
  have HB5 : Hid (Below w.heap.size w w5) := Lib.hid (HB4.out.trans (hb5.mono hws4))
  clear hb5
  go_wp2_with fail
  go_ret
  exact ⟨rfl, HB5.out⟩

set_option maxRecDepth 100000 in
set_option maxHeartbeats 2000000 in
theorem needs_11b (a c : Int) (w : World) (hy : (IntKind.u64.wrap a).tmod 12 = 11) (d : UInt8) (hd : c = (d.toNat : Int)) (h32 : ¬ 32 ≤ c) (h9 : ¬ c = 9) (h10 : ¬ c = 10) (h13 : ¬ c = 13) :
    Calls Try.prog 3 #[.int .i64 a, .int .u8 c] w fun e w' => e = .returned (.bool true) ∧ Below w.heap.size w w' := by
  have hbad : allowedI (d.toNat : Int) = false := by rw [← hd]; unfold allowedI spaceI; simp; omega
  have hlenb := need11_len d
  have e9 : (c == 9) = false := by rw [beq_eq_false_iff_ne]; exact h9
  have e10 : (c == 10) = false := by rw [beq_eq_false_iff_ne]; exact h10
  have e13 : (c == 13) = false := by rw [beq_eq_false_iff_ne]; exact h13
  have e32 : decide (32 ≤ c) = false := by rw [decide_eq_false_iff_not]; exact h32
  have HD := Lib.hid hd
  have HBAD := Lib.hid hbad
  clear hd hbad h9 h10 h13
  have HS := Lib.hid (NeAt.new w)
  unfold ndC atC at HS
  go_enter Try.func3, Try.ntmps3
  go_wp2_with fail
  refine (awake4_c _).mono ?_
  rintro e w1 ⟨rfl, hb1⟩
  have HS1 := Lib.hid (HS.out.on hb1)
  clear hb1
  go_wp2_with fail
  refine (Right_b w1.heap.size needN _ 5 5 _ true need_right (HS1.out.nodes (cap := 5) rfl rfl (by decide) (by decide)) (Nat.le_refl _) rfl (by decide) need_small).mono ?_
  rintro e w2 ⟨rfl, hb2⟩
  have HS2 := Lib.hid (HS1.out.on hb2)
  clear hb2 HS1
  have hconv : (convert 31 9 (.slice (some ⟨w2.heap.size, 0, none⟩) 1 1)).run Try.prog (w2.alloc (.cells #[.int .u8 c] 5)) = .ok (.string (tx [d])) (w2.alloc (.cells #[.int .u8 c] 5)) := by rw [HD.out]; exact one_textM w2 d
  have HS2' := Lib.hid (HS2.out.on ((Below.refl _ _).alloc (Nat.le_refl _) (.cells #[.int .u8 c] 5)))
  have c6 := HS2'.out.nod.cell 6
  have f6 := HS2'.out.nod.frozen 6
  have HS3 := Lib.hid (HS2'.out.set 6 (.string (tx [d])))
  have HNR : Hid (NodesR ((w2.alloc (.cells #[.int .u8 c] 5)).setCell ⟨w.heap.size + 1, 6, none⟩ (.string (tx [d]))).heap.size ((w2.alloc (.cells #[.int .u8 c] 5)).setCell ⟨w.heap.size + 1, 6, none⟩ (.string (tx [d]))) (.slice (some ⟨w.heap.size + 1, 0, none⟩) 5 5) (need11 d)) := Lib.hid (HS3.out.nodes (cap := 5) rfl rfl (by simp) (by simp))
  have HBW := Lib.hid HS3.out.bel
  obtain ⟨hT, hE⟩ := write_of (need11_wrong HBAD.out)
  have hws3 := HBW.out.size
  go_wp2_with fail
  refine (Write_b _ (need11 d) _ 5 _ _ [] 6 hT hE HNR.out (Nat.le_refl _) (by rfl) (by decide) (need11_small d) hlenb).mono ?_
  rintro e w4 ⟨rfl, hb4⟩
  have HB4 : Hid (Below w.heap.size w w4) := Lib.hid (HBW.out.trans (hb4.mono hws3))
  have HN4 := Lib.hid (HNR.out.below hb4)
  have hs4 := hb4.size
  have hws4 := HB4.out.size
  clear hb4
  go_wp2_with fail
  refine (Right_b _ (need11 d) _ 5 _ _ false (need11_wrong HBAD.out) HN4.out hs4 (by rfl) (by decide) (small_of (need11_small d))).mono ?_
  rintro e w5 ⟨rfl, hb5⟩
  have HB5 : Hid (Below w.heap.size w w5) := Lib.hid (HB4.out.trans (hb5.mono hws4))
  clear hb5
  go_wp2_with fail
  go_ret
  exact ⟨rfl, HB5.out⟩

theorem MarkupNeeds_walk (a c : Int) (w : World) (ha : (Lit.int .i64 a).wf = true) (hc : (Lit.int .u8 c).wf = true) :
    Calls Try.prog 3 #[.int .i64 a, .int .u8 c] w fun e w' => e = .returned (.bool true) ∧ Below w.heap.size w w' := by
  obtain ⟨y0, y1⟩ := modN a 12 (by decide)
  obtain ⟨d, hd⟩ := byte_isM c hc
  have hy : (IntKind.u64.wrap a).tmod 12 = 0 ∨ (IntKind.u64.wrap a).tmod 12 = 1 ∨ (IntKind.u64.wrap a).tmod 12 = 2 ∨ (IntKind.u64.wrap a).tmod 12 = 3 ∨ (IntKind.u64.wrap a).tmod 12 = 4 ∨ (IntKind.u64.wrap a).tmod 12 = 5 ∨ (IntKind.u64.wrap a).tmod 12 = 6 ∨ (IntKind.u64.wrap a).tmod 12 = 7 ∨ (IntKind.u64.wrap a).tmod 12 = 8 ∨ (IntKind.u64.wrap a).tmod 12 = 9 ∨ (IntKind.u64.wrap a).tmod 12 = 10 ∨ (IntKind.u64.wrap a).tmod 12 = 11 := by omega
  rcases hy with h | h | h | h | h | h | h | h | h | h | h | h
  · exact needs_0 a c w h
  · exact needs_1 a c w h
  · exact needs_2 a c w h
  · exact needs_3 a c w h
  · exact needs_4 a c w h
  · exact needs_5 a c w h
  · exact needs_6 a c w h
  · exact needs_7 a c w h
  · exact needs_8 a c w h
  · exact needs_9 a c w h
  · exact needs_10 a c w h
  · by_cases h32 : 32 ≤ c
    · exact needs_11a a c w h h32
    by_cases h9 : c = 9
    · exact needs_11c a c w h h9
    by_cases h10 : c = 10
    · exact needs_11d a c w h h10
    by_cases h13 : c = 13
    · exact needs_11e a c w h h13
    exact needs_11b a c w h d hd h32 h9 h10 h13

end Go.Proofs.Ytdcgeobimenlpaa
