/-
  newelhelp.Same over tokens: two rows that hold the same tokens are told the same.
-/
import Derived.Test.YtlfpmfdlfhldbaaGreatDoorTkSplitM
import Derived.Deep.RegionHeld3
import Derived.Deep.CutRange
namespace Go.Proofs.YtlfpmfdlfhldbaaGreatDoor
open Nwl
open Go.RowKit Go.Maps
set_option linter.unusedVariables false
set_option linter.unusedSimpArgs false

/-- attributes that may be read, below block B -/
def AttR (B : Nat) (w : World) (A : Option Addr) (l : Nat) (as' : List (List UInt8 × List UInt8)) : Prop := l = as'.length ∧ ∀ j (hj : j < as'.length), ∃ b o, A = some ⟨b, o, none⟩ ∧ b < B ∧ w.cell? ⟨b, o + j * 2, none⟩ = some (.string (tx as'[j].1)) ∧ w.cell? ⟨b, o + j * 2 + 1, none⟩ = some (.string (tx as'[j].2))
theorem AttR.below {B : Nat} {w w' : World} {A : Option Addr} {l : Nat} {as' : List (List UInt8 × List UInt8)} (h : AttR B w A l as') (hb : Below B w w') : AttR B w' A l as' :=
  ⟨h.1, fun j hj => by
    obtain ⟨b, o, q1, q2, q3, q4⟩ := h.2 j hj
    exact ⟨b, o, q1, q2, (hb.cell (p := ⟨b, o + j * 2, none⟩) q2).trans q3, (hb.cell (p := ⟨b, o + j * 2 + 1, none⟩) q2).trans q4⟩⟩
theorem attrCells_two : ∀ (acc : List (List UInt8 × List UInt8)) (j : Nat) (hj : j < acc.length), (attrCells acc)[j * 2]? = some (.string (tx acc[j].1)) ∧ (attrCells acc)[j * 2 + 1]? = some (.string (tx acc[j].2))
  | a :: l, 0, h => ⟨rfl, rfl⟩
  | a :: l, j + 1, h => by
    have := attrCells_two l j (by simpa using h)
    rw [show (j + 1) * 2 = j * 2 + 1 + 1 by omega]
    exact this
theorem AttR.of {B base : Nat} {w : World} {A : Option Addr} {l c : Nat} {as' : List (List UInt8 × List UInt8)} (h : w.ownsRow base 63 2 (.slice A l c) as'.length (attrCells as')) (hB : w.heap.size ≤ B) : AttR B w A l as' := by
  have hr := RowR.of h hB
  have hl : l = as'.length := by
    rcases h.2 with ⟨e, h0⟩ | ⟨g, cap, cur, e, _⟩
    · injection e with _ e2 _; rw [e2, h0]
    · injection e with _ e2 _
  refine ⟨hl, fun j hj => ?_⟩
  obtain ⟨b, o, c', he, hb, _, hc⟩ := hr.some (by omega)
  injection he with q1 _ _
  obtain ⟨u1, u2⟩ := attrCells_two as' j hj
  exact ⟨b, o, q1, hb, hc _ _ u1, by rw [Nat.add_assoc]; exact hc _ _ u2⟩
/-- tokens that may be read, below block B -/
def TokRd (B : Nat) (w : World) (A : Option Addr) (n : Nat) (ts : List Tok) : Prop := n = ts.length ∧ ∀ j (hj : j < ts.length), ∃ (b o : Nat) (A' : Option Addr) (l c : Nat), A = some ⟨b, o, none⟩ ∧ b < B ∧ w.cell? ⟨b, o + j * 5, none⟩ = some (.int .i64 (ts[j].kind : Int)) ∧ w.cell? ⟨b, o + j * 5 + 1, none⟩ = some (.string (tx ts[j].name)) ∧ w.cell? ⟨b, o + j * 5 + 2, none⟩ = some (.string (tx ts[j].text)) ∧ w.cell? ⟨b, o + j * 5 + 3, none⟩ = some (.slice A' l c) ∧ w.cell? ⟨b, o + j * 5 + 4, none⟩ = some (.bool ts[j].empty) ∧ AttR B w A' l ts[j].attrs
theorem TokRd.below {B : Nat} {w w' : World} {A : Option Addr} {n : Nat} {ts : List Tok} (h : TokRd B w A n ts) (hb : Below B w w') : TokRd B w' A n ts :=
  ⟨h.1, fun j hj => by
    obtain ⟨b, o, A', l, c, q1, q2, q3, q4, q5, q6, q7, q8⟩ := h.2 j hj
    exact ⟨b, o, A', l, c, q1, q2, (hb.cell (p := ⟨b, o + j * 5, none⟩) q2).trans q3, (hb.cell (p := ⟨b, o + j * 5 + 1, none⟩) q2).trans q4, (hb.cell (p := ⟨b, o + j * 5 + 2, none⟩) q2).trans q5, (hb.cell (p := ⟨b, o + j * 5 + 3, none⟩) q2).trans q6, (hb.cell (p := ⟨b, o + j * 5 + 4, none⟩) q2).trans q7, q8.below hb⟩⟩
theorem TokRd.nil (B : Nat) (w : World) : TokRd B w none 0 [] := ⟨rfl, fun j hj => by simp at hj⟩
theorem TokCells.at {w : World} {B base : Nat} (hB : w.heap.size ≤ B) : ∀ {ts : List Tok} {cs : List Value}, TokCells w base ts cs → ∀ j (hj : j < ts.length), ∃ (A : Option Addr) (l c : Nat), cs[j * 5]? = some (.int .i64 (ts[j].kind : Int)) ∧ cs[j * 5 + 1]? = some (.string (tx ts[j].name)) ∧ cs[j * 5 + 2]? = some (.string (tx ts[j].text)) ∧ cs[j * 5 + 3]? = some (.slice A l c) ∧ cs[j * 5 + 4]? = some (.bool ts[j].empty) ∧ AttR B w A l ts[j].attrs
  | t :: ts, cs, h, 0, hj => by
    obtain ⟨A, l, c, tl, rfl, h1, h2⟩ := h
    exact ⟨A, l, c, rfl, rfl, rfl, rfl, rfl, AttR.of h1 hB⟩
  | t :: ts, cs, h, j + 1, hj => by
    obtain ⟨A, l, c, tl, rfl, h1, h2⟩ := h
    obtain ⟨A', l', c', q⟩ := TokCells.at hB h2 j (by simpa using hj)
    refine ⟨A', l', c', ?_⟩
    rw [show (j + 1) * 5 = j * 5 + 1 + 1 + 1 + 1 + 1 by omega]
    exact q
theorem TokRd.of {B base : Nat} {w : World} {A : Option Addr} {n c : Nat} {ts : List Tok} (h : ToksAt base w (.slice A n c) ts) (hn : n = ts.length) (hB : w.heap.size ≤ B) : TokRd B w A n ts := by
  obtain ⟨cs, h1, h2⟩ := h
  have hr := RowR.of h1 hB
  refine ⟨hn, fun j hj => ?_⟩
  obtain ⟨b, o, c', he, hb, _, hc⟩ := hr.some (by omega)
  injection he with q1 _ _
  obtain ⟨A', l', c9, u0, u1, u2, u3, u4, u5⟩ := TokCells.at hB h2 j hj
  exact ⟨b, o, A', l', c9, q1, hb, hc _ _ u0, by rw [Nat.add_assoc]; exact hc _ _ u1, by rw [Nat.add_assoc]; exact hc _ _ u2, by rw [Nat.add_assoc]; exact hc _ _ u3, by rw [Nat.add_assoc]; exact hc _ _ u4, u5⟩

theorem cell_below {w : World} {a : Addr} {v : Value} (h : w.cell? a = some v) : a.block < w.drew.heap.size := by
  apply Classical.byContradiction
  intro hn
  have : w.heap[a.block]? = none := Array.getElem?_eq_none (by simpa using hn)
  simp [World.cell?, this] at h
set_option maxRecDepth 100000 in
theorem pl1_c (a b : ByteArray) (w : World) :
    Calls Tryz.prog 45 #[.agg #[.string a, .string b], .agg #[.string a, .string b]] w fun e w' => e = .returned (.bool true) ∧ Below w.heap.size w w' := by
  go_enter Tryz.func45, Tryz.ntmps45
  go_wp2_with fail
  go_ret
  exact ⟨rfl, ((Below.refl _ _).alloc (Nat.le_refl _) _).alloc (by simp) _⟩
set_option maxRecDepth 100000 in
set_option maxHeartbeats 2000000 in
theorem SameA_r (A1 A2 : Option Addr) (n c1 c2 : Nat) (as' : List (List UInt8 × List UInt8)) (w : World) (B : Nat) (hB : B ≤ w.heap.size) (hn : n ≤ 100000) (h1 : AttR B w A1 n as') (h2 : AttR B w A2 n as') :
    Calls Tryz.prog 44 #[.slice A1 n c1, .slice A2 n c2, .func (.func 45) #[] #[]] w fun e w' => e = .returned (.bool true) ∧ Hid (Below w.heap.size w w') := by
  have HA := Lib.hid h1
  have HB := Lib.hid h2
  have HL := Lib.hid h1.1
  clear h1 h2
  go_enter Tryz.func44, Tryz.ntmps44
  go_wp2_with fail
  go_loopw [7] (fun i wr => ∃ k : Nat, k ≤ n ∧ i = .int .i64 k ∧ Hid (Below w.heap.size w wr)) (fun i _ => n - (intOf i).toNat)
  case atStart => exact ⟨0, Nat.zero_le _, rfl, Below.refl _ _⟩
  case round =>
    obtain ⟨k, hk, rfl, hh⟩ := hrel
    by_cases hlt : k < n
    · have hkl : k < as'.length := by have := HL.out; omega
      obtain ⟨b1, o1, rfl, z1, q1, q2⟩ := HA.out.2 k hkl
      obtain ⟨b2, o2, rfl, z2, q3, q4⟩ := HB.out.2 k hkl
      have HH := Lib.hid hh.out
      obtain ⟨s, hs⟩ : ∃ s, tx (as'[k]'hkl).1 = s := ⟨_, rfl⟩
      obtain ⟨t, ht⟩ : ∃ t, tx (as'[k]'hkl).2 = t := ⟨_, rfl⟩
      rw [hs] at q1 q3
      rw [ht] at q2 q4
      have r1 : wr.cell? ⟨b1, o1 + k * 2, none⟩ = some (.string s) := (HH.out.cell (p := ⟨b1, o1 + k * 2, none⟩) (by show b1 < _; omega)).trans q1
      have r2 : wr.cell? ⟨b1, o1 + k * 2 + 1, none⟩ = some (.string t) := (HH.out.cell (p := ⟨b1, o1 + k * 2 + 1, none⟩) (by show b1 < _; omega)).trans q2
      have r3 : wr.cell? ⟨b2, o2 + k * 2, none⟩ = some (.string s) := (HH.out.cell (p := ⟨b2, o2 + k * 2, none⟩) (by show b2 < _; omega)).trans q3
      have r4 : wr.cell? ⟨b2, o2 + k * 2 + 1, none⟩ = some (.string t) := (HH.out.cell (p := ⟨b2, o2 + k * 2 + 1, none⟩) (by show b2 < _; omega)).trans q4
      clear q1 q2 q3 q4 hs ht HA HB
      go_upto_region 6 with fail
      go_region_held3 (fun w' => w'.cell? ⟨b1, o1 + k * 2, none⟩ = some (.string s) ∧ w'.cell? ⟨b1, o1 + k * 2 + 1, none⟩ = some (.string t) ∧ w'.cell? ⟨b2, o2 + k * 2, none⟩ = some (.string s) ∧ w'.cell? ⟨b2, o2 + k * 2 + 1, none⟩ = some (.string t)) (first | exact ⟨r1, r2, r3, r4⟩ | exact ⟨(hb2.cell (cell_below r1)).trans r1, (hb2.cell (cell_below r2)).trans r2, (hb2.cell (cell_below r3)).trans r3, (hb2.cell (cell_below r4)).trans r4⟩ | fail) (first | (go_at_call 45; refine (pl1_c s t _).mono ?_; rintro e w2 ⟨rfl, hb2⟩))
      have HB2 : Hid (Below w.heap.size w w2) := Lib.hid (HH.out.drew.trans (hb2.mono HH.out.size))
      rename_i hheld
      clear hheld
      go_wp2_with fail
      go_roundw
      case rel => exact ⟨k + 1, by omega, by go_num, HB2.out⟩
      case measure => simp [intOf]; omega
    · go_wp2_with fail
      go_ret
      exact ⟨rfl, hh⟩

set_option maxRecDepth 100000 in
theorem PlainA_r (A1 A2 : Option Addr) (n c1 c2 : Nat) (as' : List (List UInt8 × List UInt8)) (w : World) (B : Nat) (hB : B ≤ w.heap.size) (hn : n ≤ 100000) (h1 : AttR B w A1 n as') (h2 : AttR B w A2 n as') :
    Calls Tryz.prog 23 #[.slice A1 n c1, .slice A2 n c2] w fun e w' => e = .returned (.bool true) ∧ Hid (Below w.heap.size w w') := by
  have HA := Lib.hid h1
  have HB := Lib.hid h2
  clear h1 h2
  go_enter Tryz.func23, Tryz.ntmps23
  go_wp2_with fail
  refine (SameA_r A1 A2 n c1 c2 as' w B hB hn HA.out HB.out).mono ?_
  rintro e w2 ⟨rfl, hb2⟩
  go_wp2_with fail
  go_ret
  exact ⟨rfl, hb2⟩

/-- a token as a value -/
abbrev tkV (t : Tok) (A : Option Addr) (l c : Nat) : Value := .agg #[.int .i64 (t.kind : Int), .string (tx t.name), .string (tx t.text), .slice A l c, .bool t.empty]
/-- two tokens' boxes, and what lies behind -/
def T2 (w W : World) (k : Int) (n x : ByteArray) (e : Bool) (A1 A2 : Option Addr) (l c1 c2 : Nat) : Prop := Blk W w.heap.size 32 #[.int .i64 k, .string n, .string x, .slice A1 l c1, .bool e] ∧ Blk W (w.heap.size + 1) 32 #[.int .i64 k, .string n, .string x, .slice A2 l c2, .bool e] ∧ Below w.heap.size w W
theorem T2.new (w : World) (k : Int) (n x : ByteArray) (e : Bool) (A1 A2 : Option Addr) (l c1 c2 : Nat) : T2 w ((w.alloc (.cells #[.int .i64 k, .string n, .string x, .slice A1 l c1, .bool e] 32)).alloc (.cells #[.int .i64 k, .string n, .string x, .slice A2 l c2, .bool e] 32)) k n x e A1 A2 l c1 c2 := by
  have h2 := Blk.new (w.alloc (.cells #[.int .i64 k, .string n, .string x, .slice A1 l c1, .bool e] 32)) 32 #[.int .i64 k, .string n, .string x, .slice A2 l c2, .bool e]
  have z1 : (w.alloc (.cells #[.int .i64 k, .string n, .string x, .slice A1 l c1, .bool e] 32)).heap.size = w.heap.size + 1 := by simp
  rw [z1] at h2
  exact ⟨(Blk.new w _ _).alloc _, h2, ((Below.refl _ _).alloc (Nat.le_refl _) _).alloc (by omega) _⟩
theorem T2.below {w W W' : World} {k : Int} {n x : ByteArray} {e : Bool} {A1 A2 : Option Addr} {l c1 c2 : Nat} (h : T2 w W k n x e A1 A2 l c1 c2) (hb : Below W.heap.size W W') : T2 w W' k n x e A1 A2 l c1 c2 := ⟨h.1.below hb, h.2.1.below hb, h.2.2.trans (hb.mono h.2.2.size)⟩
theorem T2.rd {w W : World} {k : Int} {n x : ByteArray} {e : Bool} {A1 A2 : Option Addr} {l c1 c2 : Nat} (h : T2 w W k n x e A1 A2 l c1 c2) : W.cell? ⟨w.heap.size, 0, none⟩ = some (.int .i64 k) ∧ W.cell? ⟨w.heap.size, 1, none⟩ = some (.string n) ∧ W.cell? ⟨w.heap.size, 2, none⟩ = some (.string x) ∧ W.cell? ⟨w.heap.size, 3, none⟩ = some (.slice A1 l c1) ∧ W.cell? ⟨w.heap.size, 4, none⟩ = some (.bool e) ∧ W.cell? ⟨w.heap.size + 1, 0, none⟩ = some (.int .i64 k) ∧ W.cell? ⟨w.heap.size + 1, 1, none⟩ = some (.string n) ∧ W.cell? ⟨w.heap.size + 1, 2, none⟩ = some (.string x) ∧ W.cell? ⟨w.heap.size + 1, 3, none⟩ = some (.slice A2 l c2) ∧ W.cell? ⟨w.heap.size + 1, 4, none⟩ = some (.bool e) :=
  ⟨h.1.cell 0, h.1.cell 1, h.1.cell 2, h.1.cell 3, h.1.cell 4, h.2.1.cell 0, h.2.1.cell 1, h.2.1.cell 2, h.2.1.cell 3, h.2.1.cell 4⟩
set_option maxRecDepth 100000 in
set_option maxHeartbeats 2000000 in
theorem HTok_c (k : Int) (n x : ByteArray) (e : Bool) (as' : List (List UInt8 × List UInt8)) (A1 A2 : Option Addr) (l c1 c2 : Nat) (w : World) (B : Nat) (hB : B ≤ w.heap.size) (hn : l ≤ 100000) (h1 : AttR B w A1 l as') (h2 : AttR B w A2 l as') :
    Calls Tryz.prog 11 #[.agg #[.int .i64 k, .string n, .string x, .slice A1 l c1, .bool e], .agg #[.int .i64 k, .string n, .string x, .slice A2 l c2, .bool e]] w fun e w' => e = .returned (.bool true) ∧ Hid (Below w.heap.size w w') := by
  have X0 := Lib.hid (T2.new w k n x e A1 A2 l c1 c2)
  have HA := Lib.hid (h1.below (X0.out.2.2.mono hB))
  have HB := Lib.hid (h2.below (X0.out.2.2.mono hB))
  clear h1 h2
  obtain ⟨w1, hw1⟩ : ∃ w1, (w.alloc (.cells #[.int .i64 k, .string n, .string x, .slice A1 l c1, .bool e] 32)).alloc (.cells #[.int .i64 k, .string n, .string x, .slice A2 l c2, .bool e] 32) = w1 := ⟨_, rfl⟩
  go_enter Tryz.func11, Tryz.ntmps11
  go_upto_region 1 with fail
  rw [hw1] at X0 HA HB
  clear hw1
  obtain ⟨z0, z1, z2, z3, z4, z5, z6, z7, z8, z9⟩ := T2.rd X0.out
  go_wp2_with fail
  refine (PlainA_r A1 A2 l c1 c2 as' _ B (Nat.le_trans hB X0.out.2.2.size) hn HA.out HB.out).mono ?_
  rintro e w2 ⟨rfl, b2⟩
  have X2 := Lib.hid (X0.out.below b2.out)
  clear b2 X0 z0 z1 z2 z3 z4 z5 z6 z7 z8 z9
  obtain ⟨z0, z1, z2, z3, z4, z5, z6, z7, z8, z9⟩ := T2.rd X2.out
  go_wp2_with fail
  go_ret
  exact ⟨rfl, Lib.hid X2.out.2.2⟩

set_option maxRecDepth 100000 in
set_option maxHeartbeats 4000000 in
theorem SameT_r (A1 A2 : Option Addr) (n c1 c2 : Nat) (ts : List Tok) (w : World) (B : Nat) (hB : B ≤ w.heap.size) (hn : n ≤ 100000) (ha : ∀ t ∈ ts, t.attrs.length ≤ 100000) (h1 : TokRd B w A1 n ts) (h2 : TokRd B w A2 n ts) :
    Calls Tryz.prog 10 #[.slice A1 n c1, .slice A2 n c2, .func (.func 11) #[] #[]] w fun e w' => e = .returned (.bool true) ∧ Hid (Below w.heap.size w w') := by
  have HA := Lib.hid h1
  have HB := Lib.hid h2
  have HL := Lib.hid h1.1
  clear h1 h2
  go_enter Tryz.func10, Tryz.ntmps10
  go_wp2_with fail
  go_loopw [7] (fun i wr => ∃ k : Nat, k ≤ n ∧ i = .int .i64 k ∧ Hid (Below w.heap.size w wr)) (fun i _ => n - (intOf i).toNat)
  case atStart => exact ⟨0, Nat.zero_le _, rfl, Below.refl _ _⟩
  case round =>
    obtain ⟨k, hk, rfl, hh⟩ := hrel
    by_cases hlt : k < n
    · have hkl : k < ts.length := by have := HL.out; omega
      obtain ⟨b1, o1, P1, l1, e1, rfl, z1, p0, p1, p2, p3, p4, R1⟩ := HA.out.2 k hkl
      obtain ⟨b2, o2, P2, l2, e2, rfl, z2, q0, q1, q2, q3, q4, R2⟩ := HB.out.2 k hkl
      have hm : ts[k]'hkl ∈ ts := List.getElem_mem hkl
      have HH := Lib.hid hh.out
      have hll := ha _ hm
      generalize ts[k]'hkl = t at p0 p1 p2 p4 q0 q1 q2 q4 R1 R2 hll hm
      obtain ⟨kd, nm, tt, at1, em⟩ := t
      dsimp only at p0 p1 p2 p4 q0 q1 q2 q4 R1 R2 hll
      obtain ⟨kk, hkk⟩ : ∃ kk : Int, (kd : Int) = kk := ⟨_, rfl⟩
      obtain ⟨N, hN⟩ : ∃ N, tx nm = N := ⟨_, rfl⟩
      obtain ⟨X, hX⟩ : ∃ X, tx tt = X := ⟨_, rfl⟩
      rw [hkk] at p0 q0
      rw [hN] at p1 q1
      rw [hX] at p2 q2
      obtain rfl : l1 = l2 := by rw [R1.1, R2.1]
      have hl1 : l1 ≤ 100000 := by rw [R1.1]; exact hll
      have up : ∀ (b i : Nat) (u : Value), b < B → w.cell? ⟨b, i, none⟩ = some u → wr.cell? ⟨b, i, none⟩ = some u := fun b i u hb h => (HH.out.cell (p := ⟨b, i, none⟩) (by show b < _; omega)).trans h
      have p0' := up _ _ _ z1 p0
      have p1' := up _ _ _ z1 p1
      have p2' := up _ _ _ z1 p2
      have p3' := up _ _ _ z1 p3
      have p4' := up _ _ _ z1 p4
      have q0' := up _ _ _ z2 q0
      have q1' := up _ _ _ z2 q1
      have q2' := up _ _ _ z2 q2
      have q3' := up _ _ _ z2 q3
      have q4' := up _ _ _ z2 q4
      have S1 := Lib.hid (R1.below (HH.out.mono hB))
      have S2 := Lib.hid (R2.below (HH.out.mono hB))
      have hBr : B ≤ wr.heap.size := Nat.le_trans hB HH.out.size
      clear up p0 p1 p2 p3 p4 q0 q1 q2 q3 q4 R1 R2 hkk hN hX hm hll ha HA HB
      go_upto_region 6 with fail
      go_region_held3 (fun w' => w'.cell? ⟨b1, o1 + k * 5, none⟩ = some (.int .i64 kk) ∧ w'.cell? ⟨b1, o1 + k * 5 + 1, none⟩ = some (.string N) ∧ w'.cell? ⟨b1, o1 + k * 5 + 2, none⟩ = some (.string X) ∧ w'.cell? ⟨b1, o1 + k * 5 + 3, none⟩ = some (.slice P1 l1 e1) ∧ w'.cell? ⟨b1, o1 + k * 5 + 4, none⟩ = some (.bool em) ∧ w'.cell? ⟨b2, o2 + k * 5, none⟩ = some (.int .i64 kk) ∧ w'.cell? ⟨b2, o2 + k * 5 + 1, none⟩ = some (.string N) ∧ w'.cell? ⟨b2, o2 + k * 5 + 2, none⟩ = some (.string X) ∧ w'.cell? ⟨b2, o2 + k * 5 + 3, none⟩ = some (.slice P2 l1 e2) ∧ w'.cell? ⟨b2, o2 + k * 5 + 4, none⟩ = some (.bool em)) (first | exact ⟨p0', p1', p2', p3', p4', q0', q1', q2', q3', q4'⟩ | exact ⟨(hb2.out.cell (cell_below p0')).trans p0', (hb2.out.cell (cell_below p1')).trans p1', (hb2.out.cell (cell_below p2')).trans p2', (hb2.out.cell (cell_below p3')).trans p3', (hb2.out.cell (cell_below p4')).trans p4', (hb2.out.cell (cell_below q0')).trans q0', (hb2.out.cell (cell_below q1')).trans q1', (hb2.out.cell (cell_below q2')).trans q2', (hb2.out.cell (cell_below q3')).trans q3', (hb2.out.cell (cell_below q4')).trans q4'⟩ | fail) (first | (go_at_call 11; refine (HTok_c kk N X em at1 P1 P2 l1 e1 e2 wr.drew B hBr hl1 S1.out S2.out).mono ?_; rintro e w2 ⟨rfl, hb2⟩))
      have HB2 : Hid (Below w.heap.size w w2) := Lib.hid (HH.out.drew.trans (hb2.out.mono HH.out.size))
      rename_i hheld
      clear hheld
      go_wp2_with fail
      go_roundw
      case rel => exact ⟨k + 1, by omega, by go_num, HB2.out⟩
      case measure => simp [intOf]; omega
    · go_wp2_with fail
      go_ret
      exact ⟨rfl, hh⟩
end Go.Proofs.YtlfpmfdlfhldbaaGreatDoor
