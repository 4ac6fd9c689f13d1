/-
  The document's own answers (layer 2): the walk: a beginning.
-/
import Derived.Test.YtlfpmfdlfhldbaaGreatDoorRfTok
import Derived.Test.YtlfpmfdlfhldbaaGreatDoorTkOpenM
import Derived.Deep.RegionHeld3
import Derived.Deep.CutRange
namespace Nwl
open Go
theorem open_no {l : List UInt8} (h : (nameP l).1 = []) : openL l = none := by unfold openL; rw [if_pos h]
theorem open_of {l r nm : List UInt8} {X : Option (List (List UInt8 × List UInt8) × Bool × List UInt8)} (h0 : (nameP l).1 = nm) (h : nm ≠ []) (h2 : (nameP l).2 = r) (hx : attrsL [] r = X) : openL l = X.map fun (a, e, rest) => (⟨1, nm, [], a, e⟩, rest) := by
  subst h0 h2 hx
  unfold openL attrsL
  rw [if_neg h]
theorem taken_yes {acc : List (List UInt8 × List UInt8)} {n : List UInt8} {j : Nat} (hj : j < acc.length) (h : acc[j].1 = n) : (acc.map (·.1)).contains n = true := by
  rw [List.contains_iff_mem, List.mem_map]
  exact ⟨acc[j], List.getElem_mem hj, h⟩
theorem taken_no {acc : List (List UInt8 × List UInt8)} {n : List UInt8} (h : ∀ j (hj : j < acc.length), j < acc.length → acc[j].1 ≠ n) : (acc.map (·.1)).contains n = false := by
  cases e : (acc.map (·.1)).contains n with
  | false => rfl
  | true =>
    rw [List.contains_iff_mem, List.mem_map] at e
    obtain ⟨a, ha, hn⟩ := e
    obtain ⟨j, hj, rfl⟩ := List.mem_iff_getElem.1 ha
    exact absurd hn (h j hj hj)
end Nwl
namespace Go.Proofs.YtlfpmfdlfhldbaaGreatDoor
open Nwl
open Go.RowKit Go.Maps
set_option linter.unusedVariables false
set_option linter.unusedSimpArgs false

theorem tx_toL (t : List UInt8) : (tx t).toList = t := by rw [ByteArray.toList_eq]; rfl
theorem attrCells_at : ∀ (acc : List (List UInt8 × List UInt8)) (j : Nat) (hj : j < acc.length), (attrCells acc)[j * 2]? = some (.string (tx acc[j].1))
  | a :: l, 0, h => rfl
  | a :: l, j + 1, h => by
    have := attrCells_at l j (by simpa using h)
    rw [show (j + 1) * 2 = j * 2 + 1 + 1 by omega]
    exact this
theorem rtPost_open {g : Nat} {S : ByteArray} {x : Option (Tok × List UInt8)} {w : World} {e : Ending} {w' : World} {i : Nat} {nm rest : List UInt8} {acc : List (List UInt8 × List UInt8)} {A : Option Addr} {c : Nat} {em : Bool} (h : x = some (⟨1, nm, [], acc, em⟩, rest))
    (he : e = .returned (.tuple #[.agg #[.int .i64 1, .string (tx nm), .string ⟨#[]⟩, .slice A acc.length c, .bool em], .bool true])) (hrow : w'.ownsRow w.heap.size 63 2 (.slice A acc.length c) acc.length (attrCells acc)) (hi : i ≤ S.size) (hrest : rest = (bs S).drop i) (hr : RW g S i w') (hg : w.grownBy w' (some g)) : RtPost g S x w e w' := by
  subst h
  exact ⟨⟨A, acc.length, c, he, hrow⟩, ⟨i, hi, hrest, hr⟩, hg⟩
theorem PX.set_new {w W : World} {g i : Nat} {S : ByteArray} (h : PX w W g S i) {b : Nat} (hb : w.heap.size < b) (j : Nat) (u : Value) : PX w (W.setCell ⟨b, j, none⟩ u) g S i := by
  obtain ⟨h1, h2, h3, h4⟩ := h
  exact ⟨Blk.set_far h1 (by omega) u, h2.set_far (by omega) u, grown_set_new h3 (by omega) u, h4⟩
/-- a beginning under way: the token, and its row of attributes -/
def OX (w W : World) (g : Nat) (S : ByteArray) (i b : Nat) (nm : List UInt8) (acc : List (List UInt8 × List UInt8)) (A : Option Addr) (c : Nat) (em : Bool) : Prop :=
  TX w W g S i b (.int .i64 1) (.string (tx nm)) (.string ⟨#[]⟩) (.slice A acc.length c) (.bool em) ∧ W.ownsRow w.heap.size 63 2 (.slice A acc.length c) acc.length (attrCells acc)
theorem OX.grown {w W W' : World} {g i i' b c : Nat} {S : ByteArray} {nm : List UInt8} {acc : List (List UInt8 × List UInt8)} {A : Option Addr} {em : Bool} (h : OX w W g S i b nm acc A c em) (hg : W.grownBy W' (some g)) (hr : RW g S i' W') : OX w W' g S i' b nm acc A c em :=
  ⟨h.1.grown hg hr, h.2.kept hg (by
    by_cases e : (Value.slice A acc.length c).ownBlock = none
    · exact .inl e
    · refine .inr fun e2 => ?_
      have := (h.2.lt g e2).1
      have := h.1.1.2.2.2
      omega)⟩
theorem OX.drew {w W : World} {g i b c : Nat} {S : ByteArray} {nm : List UInt8} {acc : List (List UInt8 × List UInt8)} {A : Option Addr} {em : Bool} (h : OX w W g S i b nm acc A c em) : OX w W.drew g S i b nm acc A c em := ⟨h.1.drew, h.2⟩
theorem OX.at1 {w W : World} {g i b c : Nat} {S : ByteArray} {nm : List UInt8} {acc : List (List UInt8 × List UInt8)} {A : Option Addr} {em : Bool} (h : OX w W g S i b nm acc A c em) : OX w (W.setCell ⟨g, 1, none⟩ (.int .i64 ((i : Int) + 1))) g S (i + 1) b nm acc A c em := h.grown (set_grown _ _ _ _) (h.1.1.1.set (i + 1))
theorem OX.at2 {w W : World} {g i b c : Nat} {S : ByteArray} {nm : List UInt8} {acc : List (List UInt8 × List UInt8)} {A : Option Addr} {em : Bool} (h : OX w W g S i b nm acc A c em) : OX w (W.setCell ⟨g, 1, none⟩ (.int .i64 ((i : Int) + 2))) g S (i + 2) b nm acc A c em := h.grown (set_grown _ _ _ _) (h.1.1.1.set (i + 2))
theorem OX.alloc {w W : World} {g i b c : Nat} {S : ByteArray} {nm : List UInt8} {acc : List (List UInt8 × List UInt8)} {A : Option Addr} {em : Bool} (h : OX w W g S i b nm acc A c em) (o : Obj) : OX w (W.alloc o) g S i b nm acc A c em :=
  ⟨⟨h.1.1.alloc o, h.1.2.1.alloc o, h.1.2.2⟩, h.2.alloc o⟩
theorem OX.mark {w W : World} {g i b c : Nat} {S : ByteArray} {nm : List UInt8} {acc : List (List UInt8 × List UInt8)} {A : Option Addr} {em : Bool} (h : OX w W g S i b nm acc A c em) : OX w (W.setCell ⟨b, 4, none⟩ (.bool true)) g S i b nm acc A c true :=
  ⟨⟨h.1.1.set_new h.1.2.2 4 _, h.1.2.1.set 4 _, h.1.2.2⟩, h.2.kept (grown_set _ _ _ _) (.inr (own_ne h.2 h.1.2.1 (by decide)))⟩

set_option maxRecDepth 100000 in
set_option maxHeartbeats 16000000 in
theorem ropen_c (g : Nat) (S : ByteArray) (k : Nat) (w : World) (h : RW g S k w) (hk : k + 1 ≤ S.size) (hs : S.size ≤ 100000) :
    Calls Tryz.prog 37 #[.pointer (some ⟨g, 0, none⟩)] w (RtPost g S (openL ((bs S).drop (k + 1))) w) := by
  obtain ⟨i0, hi0, hz0, hz1, hz2⟩ := info_parts info_at
  have hwr : IntKind.i64.wrap ((k : Int) + 1) = ((k + 1 : Nat) : Int) := wrapR (by omega) (by omega)
  have P0 := Lib.hid (PX.start h)
  have P1 := Lib.hid (PX.start2 h (k + 1))
  obtain ⟨z0, z1, x0, x1, x2, x3, x4⟩ := PX.rd P0.out
  obtain ⟨f1, f50, f51, f52, f53, f54⟩ := PX.fz P0.out
  have c0 := h.c0
  have c1 := h.c1
  have f0 := h.f1
  have hlt := Blk.lt h
  clear h
  obtain ⟨nm, hnm⟩ : ∃ nm, (nameP ((bs S).drop (k + 1))).1 = nm := ⟨_, rfl⟩
  have HNM := Lib.hid hnm
  clear hnm
  go_enter Tryz.func37, Tryz.ntmps37
  go_wp2_with fail
  refine (rname_c g S (k + 1) _ P1.out.1 hk hs).mono ?_
  rintro e w1 ⟨i, hki, his, rfl, hr1, hg1, hrest⟩
  rw [HNM.out]
  have P2 := Lib.hid (P1.out.grown hg1 hr1)
  have X1 := Lib.hid (TX.new P2.out (.int .i64 1) (.string (tx nm)) (.string ⟨#[]⟩) (.slice none 0 0) (.bool false))
  have HRE : Hid (nm ≠ [] → (nameP ((bs S).drop (k + 1))).2 = (bs S).drop i) := Lib.hid (by rw [← HNM.out]; exact hrest)
  clear hr1 hg1 hrest z0 z1 x0 x1 x2 x3 x4 f1 f50 f51 f52 f53 f54 P0 P1 P2 c0 c1 f0 hlt hwr
  go_wp2_with fail
  obtain ⟨b, hb⟩ : ∃ b, w1.heap.size = b := ⟨_, rfl⟩
  obtain ⟨w2, hw2⟩ : ∃ w2, w1.alloc (.cells #[.int .i64 1, .string (tx nm), .string ⟨#[]⟩, .slice none 0 0, .bool false] 32) = w2 := ⟨_, rfl⟩
  rw [hw2, hb] at X1
  rw [hw2, hb]
  clear hw2 hb
  have O1 : Hid (OX w w2 g S i b nm [] none 0 false) := Lib.hid ⟨X1.out, World.ownsRow_nil _ _ _ _⟩
  clear X1
  by_cases hn : nm = []
  · have HA : Hid (openL ((bs S).drop (k + 1)) = none) := Lib.hid (open_no (by rw [HNM.out]; exact hn))
    have htn : (tx nm).toList = [] := by rw [hn, ByteArray.toList_eq]; rfl
    clear hn
    obtain ⟨acc, hacc⟩ : ∃ acc : List (List UInt8 × List UInt8), [] = acc := ⟨_, rfl⟩
    obtain ⟨A, hA⟩ : ∃ A : Option Addr, none = A := ⟨_, rfl⟩
    obtain ⟨c, hc⟩ : ∃ c : Nat, 0 = c := ⟨_, rfl⟩
    rw [hacc, hA, hc] at O1
    clear hacc hA hc
    obtain ⟨y0, y1, y2, y3, y4⟩ := TX.rd O1.out.1
    refine wp_loop_rounds 1 ?_
    rw [rounds_succ]
    clear y0 y2 y3 y4
    go_upto_region 23 with fail
    clear y1
    have QQ := Lib.hid (PX.fin O1.out.1.1 (.int .i64 1) (.string (tx nm)) (.string ⟨#[]⟩) (.slice A acc.length c) (.bool false))
    have DD := Lib.hid (PX.ed O1.out.1.1 (.int .i64 1) (.string (tx nm)) (.string ⟨#[]⟩) (.slice A acc.length c) (.bool false))
    obtain ⟨q0, q1, x0, x1, x2, x3, x4⟩ := PX.rd O1.out.1.1
    obtain ⟨f1, f50, f51, f52, f53, f54⟩ := PX.fz O1.out.1.1
    obtain ⟨y0, y1, y2, y3, y4⟩ := TX.rd O1.out.1
    clear O1
    go_wp2_with fail
    exact bodyPost_ret (v := .tuple #[.agg #[.int .i64 1, .string (tx nm), .string ⟨#[]⟩, .slice A acc.length c, .bool false], .bool false]) (by obtain ⟨d0, d1, d2, d3, d4⟩ := DD.out; simp [results, Tryz.results37, go_sem, d0, d1, d2, d3, d4]) rfl (rtPost_none HA.out rfl his QQ.out.1 QQ.out.2)
  · have hne : (tx nm).toList.isEmpty = false := by
      rw [show (tx nm).toList = nm by rw [ByteArray.toList_eq]; rfl]
      cases nm with
      | nil => exact absurd rfl hn
      | cons => rfl
    have hne2 : ((tx nm).toList == []) = false := by
      rw [show (tx nm).toList = nm by rw [ByteArray.toList_eq]; rfl, beq_eq_false_iff_ne]; exact hn
    obtain ⟨X, hX⟩ : ∃ X, attrsL [] ((bs S).drop i) = X := ⟨_, rfl⟩
    have HO : Hid (openL ((bs S).drop (k + 1)) = X.map fun (a, e, rest) => (⟨1, nm, [], a, e⟩, rest)) := Lib.hid (open_of HNM.out hn (HRE.out hn) hX)
    have HX := Lib.hid hX
    have HHI := Lib.hid his
    clear hX hn HRE HNM his hki
    go_loopw [5] (fun nv wr => ∃ (i : Nat) (acc : List (List UInt8 × List UInt8)) (A : Option Addr) (c : Nat), i ≤ S.size ∧ acc.length ≤ i ∧ Hid (OX w wr g S i b nm acc A c false ∧ attrsL acc ((bs S).drop i) = X)) (fun _ wr => S.size - rwAt g wr)
    case atStart => exact ⟨i, [], none, 0, HHI.out, by simp, Lib.hid ⟨O1.out, HX.out⟩⟩
    case round =>
    clear O1 HX HHI i hk
    obtain ⟨i, acc, A, c, hi, hal, hq⟩ := hrel
    have OO := Lib.hid hq.out.1
    have HAT := Lib.hid hq.out.2
    have HWR : Hid (rwAt g wr = i) := Lib.hid OO.out.1.1.1.at
    clear hq
    obtain ⟨y0, y1, y2, y3, y4⟩ := TX.rd OO.out.1
    clear y0 y2 y3 y4
    go_wp2_with fail
    refine (rspaces_c g S i _ OO.out.1.1.1 hi hs).mono ?_
    rintro e w3 ⟨i2, hi2, hs2, rfl, hr2, hg2, hsk⟩
    have O2 := Lib.hid (OO.out.grown hg2 hr2)
    have HSK := Lib.hid hsk
    clear hr2 hg2 hsk OO y1
    obtain ⟨d1, hd1⟩ : ∃ d, Lib.hasPrefix ((bs S).drop i2) (bs ⟨#[62]⟩) = d := ⟨_, rfl⟩
    have HD1 := Lib.hid hd1
    obtain ⟨d2, hd2⟩ : ∃ d, Lib.hasPrefix ((bs S).drop i2) (bs ⟨#[47, 62]⟩) = d := ⟨_, rfl⟩
    have HD2 := Lib.hid hd2
    clear hd1 hd2
    go_upto_region 5 with fail
    go_region_held3 (fun w' => w'.cell? ⟨g, 0, none⟩ = some (.string S) ∧ w'.cell? ⟨g, 1, none⟩ = some (.int .i64 (i2 : Int))) (first | exact ⟨O2.out.1.1.1.c0, O2.out.1.1.1.c1⟩ | fail) (first | (go_at_call 33; refine (begins_c' S ⟨#[62]⟩ i2 _ (by omega) (by decide) (by decide) (by omega)).mono ?_; rintro e w9 ⟨rfl, rfl⟩; rw [HD1.out]))
    rename_i hheld
    clear hheld
    have O3 := Lib.hid O2.out.drew
    obtain ⟨w4, hw4⟩ : ∃ w4, w3.drew = w4 := ⟨_, rfl⟩
    rw [hw4] at O3 ⊢
    clear hw4 O2
    cases d1 with
    | true =>
      have hlt2 : i2 + 1 ≤ S.size := by
        have h1 := prefix_len HD1.out
        have h2 := bs_length S
        rw [List.length_drop] at h1
        have h3 : (bs ⟨#[62]⟩).length = 1 := rfl
        omega
      have HA : Hid (openL ((bs S).drop (k + 1)) = some (⟨1, nm, [], acc, false⟩, (bs S).drop (i2 + 1))) := Lib.hid (by
        rw [HO.out, ← HAT.out, attrsL_gt (by rw [HSK.out]; exact HD1.out), HSK.out, List.drop_drop]; rfl)
      have hwr : IntKind.i64.wrap ((i2 : Int) + 1) = ((i2 + 1 : Nat) : Int) := wrapR (by omega) (by omega)
      have z0 := O3.out.1.1.1.c0
      have z1 := O3.out.1.1.1.c1
      have f1 := O3.out.1.1.1.f1
      have O5 := Lib.hid O3.out.at1
      go_upto_region 7 with fail
      obtain ⟨w5, hw5⟩ : ∃ w5, w4.setCell ⟨g, 1, none⟩ (.int .i64 ((i2 : Int) + 1)) = w5 := ⟨_, rfl⟩
      rw [hw5] at O5 ⊢
      clear hw5 O3 z0 z1 f1 hwr HAT HO HSK HD1 HD2
      have QQ := Lib.hid (PX.fin O5.out.1.1 (.int .i64 1) (.string (tx nm)) (.string ⟨#[]⟩) (.slice A acc.length c) (.bool false))
      have DD := Lib.hid (PX.ed O5.out.1.1 (.int .i64 1) (.string (tx nm)) (.string ⟨#[]⟩) (.slice A acc.length c) (.bool false))
      have RR := Lib.hid (row_done O5.out.2 O5.out.1.1.2.1 (.int .i64 1) (.string (tx nm)) (.string ⟨#[]⟩) (.slice A acc.length c) (.bool false))
      obtain ⟨q0, q1, x0, x1, x2, x3, x4⟩ := PX.rd O5.out.1.1
      obtain ⟨f1, f50, f51, f52, f53, f54⟩ := PX.fz O5.out.1.1
      obtain ⟨y0, y1, y2, y3, y4⟩ := TX.rd O5.out.1
      clear O5
      go_wp2_with fail
      exact bodyPost_ret (v := .tuple #[.agg #[.int .i64 1, .string (tx nm), .string ⟨#[]⟩, .slice A acc.length c, .bool false], .bool true]) (by obtain ⟨d0, d1, d2, d3, d4⟩ := DD.out; simp [results, Tryz.results37, go_sem, d0, d1, d2, d3, d4]) rfl (rtPost_open HA.out rfl RR.out hlt2 rfl QQ.out.1 QQ.out.2)
    | false =>
      go_upto_region 8 with fail
      go_region_held3 (fun w' => w'.cell? ⟨g, 0, none⟩ = some (.string S) ∧ w'.cell? ⟨g, 1, none⟩ = some (.int .i64 (i2 : Int))) (first | exact ⟨O3.out.1.1.1.c0, O3.out.1.1.1.c1⟩ | fail) (first | (go_at_call 33; refine (begins_c' S ⟨#[47, 62]⟩ i2 _ (by omega) (by decide) (by decide) (by omega)).mono ?_; rintro e w9 ⟨rfl, rfl⟩; rw [HD2.out]))
      rename_i hheld
      clear hheld
      have O4 := Lib.hid O3.out.drew
      obtain ⟨w5, hw5⟩ : ∃ w5, w4.drew = w5 := ⟨_, rfl⟩
      rw [hw5] at O4 ⊢
      clear hw5 O3
      cases d2 with
      | true =>
        have hlt2 : i2 + 2 ≤ S.size := by
          have h1 := prefix_len HD2.out
          have h2 := bs_length S
          rw [List.length_drop] at h1
          have h3 : (bs ⟨#[47, 62]⟩).length = 2 := rfl
          omega
        have HA : Hid (openL ((bs S).drop (k + 1)) = some (⟨1, nm, [], acc, true⟩, (bs S).drop (i2 + 2))) := Lib.hid (by
          rw [HO.out, ← HAT.out, attrsL_sl (by rw [HSK.out]; exact HD1.out) (by rw [HSK.out]; exact HD2.out), HSK.out, List.drop_drop]; rfl)
        have hwr : IntKind.i64.wrap ((i2 : Int) + 2) = ((i2 + 2 : Nat) : Int) := wrapR (by omega) (by omega)
        have z0 := O4.out.1.1.1.c0
        have z1 := O4.out.1.1.1.c1
        have f1 := O4.out.1.1.1.f1
        have O5 := Lib.hid O4.out.at2
        go_upto_region 10 with fail
        obtain ⟨w6, hw6⟩ : ∃ w6, w5.setCell ⟨g, 1, none⟩ (.int .i64 ((i2 : Int) + 2)) = w6 := ⟨_, rfl⟩
        rw [hw6] at O5 ⊢
        clear hw6 O4 z0 z1 f1 hwr HAT HO HSK HD1 HD2
        have y4 := O5.out.1.2.1.cell 4
        have v4 := O5.out.1.2.1.frozen 4
        have O6 := Lib.hid O5.out.mark
        go_upto_region 11 with fail
        obtain ⟨w7, hw7⟩ : ∃ w7, w6.setCell ⟨b, 4, none⟩ (.bool true) = w7 := ⟨_, rfl⟩
        rw [hw7] at O6 ⊢
        clear hw7 O5 y4 v4
        have QQ := Lib.hid (PX.fin O6.out.1.1 (.int .i64 1) (.string (tx nm)) (.string ⟨#[]⟩) (.slice A acc.length c) (.bool true))
        have DD := Lib.hid (PX.ed O6.out.1.1 (.int .i64 1) (.string (tx nm)) (.string ⟨#[]⟩) (.slice A acc.length c) (.bool true))
        have RR := Lib.hid (row_done O6.out.2 O6.out.1.1.2.1 (.int .i64 1) (.string (tx nm)) (.string ⟨#[]⟩) (.slice A acc.length c) (.bool true))
        obtain ⟨q0, q1, x0, x1, x2, x3, x4⟩ := PX.rd O6.out.1.1
        obtain ⟨f1, f50, f51, f52, f53, f54⟩ := PX.fz O6.out.1.1
        obtain ⟨y0, y1, y2, y3, y4⟩ := TX.rd O6.out.1
        clear O6
        go_wp2_with fail
        exact bodyPost_ret (v := .tuple #[.agg #[.int .i64 1, .string (tx nm), .string ⟨#[]⟩, .slice A acc.length c, .bool true], .bool true]) (by obtain ⟨d0, d1, d2, d3, d4⟩ := DD.out; simp [results, Tryz.results37, go_sem, d0, d1, d2, d3, d4]) rfl (rtPost_open HA.out rfl RR.out hlt2 rfl QQ.out.1 QQ.out.2)
      | false =>
        by_cases hz : i2 = i
        · subst hz
          have hsub : (i2 : Int) - (i2 : Int) = 0 := by omega
          have HA : Hid (openL ((bs S).drop (k + 1)) = none) := Lib.hid (by
            rw [HO.out, ← HAT.out, attrsL_near (by rw [HSK.out]; exact HD1.out) (by rw [HSK.out]; exact HD2.out) (by unfold spB; rw [HSK.out]; simp)]; rfl)
          go_upto_region 13 with fail
          clear HAT HO HSK HD1 HD2
          have QQ := Lib.hid (PX.fin O4.out.1.1 (.int .i64 1) (.string (tx nm)) (.string ⟨#[]⟩) (.slice A acc.length c) (.bool false))
          have DD := Lib.hid (PX.ed O4.out.1.1 (.int .i64 1) (.string (tx nm)) (.string ⟨#[]⟩) (.slice A acc.length c) (.bool false))
          obtain ⟨q0, q1, x0, x1, x2, x3, x4⟩ := PX.rd O4.out.1.1
          obtain ⟨f1, f50, f51, f52, f53, f54⟩ := PX.fz O4.out.1.1
          obtain ⟨y0, y1, y2, y3, y4⟩ := TX.rd O4.out.1
          clear O4
          go_wp2_with fail
          exact bodyPost_ret (v := .tuple #[.agg #[.int .i64 1, .string (tx nm), .string ⟨#[]⟩, .slice A acc.length c, .bool false], .bool false]) (by obtain ⟨d0, d1, d2, d3, d4⟩ := DD.out; simp [results, Tryz.results37, go_sem, d0, d1, d2, d3, d4]) rfl (rtPost_none HA.out rfl hs2 QQ.out.1 QQ.out.2)
        · have hsub : ((i2 : Int) - (i : Int) == 0) = false := by rw [beq_eq_false_iff_ne]; omega
          have hsub2 : ¬ (i2 : Int) - (i : Int) = 0 := by omega
          go_wp2_with fail
          refine (rattr_c g S i2 _ O4.out.1.1.1 hs2 hs).mono ?_
          rintro e w6 hpost
          have HSP : Hid (spB ((bs S).drop i) = true) := Lib.hid (by
            unfold spB; rw [HSK.out, List.length_drop, List.length_drop, bs_length, decide_eq_true]; omega)
          cases ha : attrL ((bs S).drop i2) with
          | none =>
            rw [ha] at hpost
            obtain ⟨⟨i3, hi3, hr3⟩, ⟨a1, a2, rfl⟩, hg3⟩ := hpost
            have HA : Hid (openL ((bs S).drop (k + 1)) = none) := Lib.hid (by
              rw [HO.out, ← HAT.out, attrsL_bad (by rw [HSK.out]; exact HD1.out) (by rw [HSK.out]; exact HD2.out) (by rw [HSK.out]; exact ha)]; rfl)
            have O5 := Lib.hid ((O4.out.grown hg3 hr3).alloc (.cells #[.string a1, .string a2] 63))
            clear hr3 hg3 O4 ha HAT HO HSK HD1 HD2
            go_upto_region 16 with fail
            obtain ⟨w7, hw7⟩ : ∃ w7, w6.alloc (.cells #[.string a1, .string a2] 63) = w7 := ⟨_, rfl⟩
            rw [hw7] at O5 ⊢
            clear hw7
            have QQ := Lib.hid (PX.fin O5.out.1.1 (.int .i64 1) (.string (tx nm)) (.string ⟨#[]⟩) (.slice A acc.length c) (.bool false))
            have DD := Lib.hid (PX.ed O5.out.1.1 (.int .i64 1) (.string (tx nm)) (.string ⟨#[]⟩) (.slice A acc.length c) (.bool false))
            obtain ⟨q0, q1, x0, x1, x2, x3, x4⟩ := PX.rd O5.out.1.1
            obtain ⟨f1, f50, f51, f52, f53, f54⟩ := PX.fz O5.out.1.1
            obtain ⟨y0, y1, y2, y3, y4⟩ := TX.rd O5.out.1
            clear O5
            go_wp2_with fail
            exact bodyPost_ret (v := .tuple #[.agg #[.int .i64 1, .string (tx nm), .string ⟨#[]⟩, .slice A acc.length c, .bool false], .bool false]) (by obtain ⟨d0, d1, d2, d3, d4⟩ := DD.out; simp [results, Tryz.results37, go_sem, d0, d1, d2, d3, d4]) rfl (rtPost_none HA.out rfl hi3 QQ.out.1 QQ.out.2)
          | some p =>
            obtain ⟨⟨n, v⟩, rest⟩ := p
            have hltr := attrL_lt ha
            rw [ha] at hpost
            obtain ⟨⟨i3, hi3, hrest3, hr3⟩, rfl, hg3⟩ := hpost
            have HMORE : Hid (∀ t, (acc.map (·.1)).contains n = t → X = if t then none else attrsL (acc ++ [(n, v)]) ((bs S).drop i3)) := Lib.hid (by
              intro t ht
              rw [← HAT.out]
              cases t with
              | true => rw [attrsL_twice (by rw [HSK.out]; exact HD1.out) (by rw [HSK.out]; exact HD2.out) (by rw [HSK.out]; exact ha) ht]; rfl
              | false => rw [attrsL_on (by rw [HSK.out]; exact HD1.out) (by rw [HSK.out]; exact HD2.out) HSP.out (by rw [HSK.out]; exact ha) ht, hrest3]; rfl)
            have hi23 : i2 < i3 := by
              rw [hrest3, List.length_drop, List.length_drop, bs_length] at hltr
              omega
            have O5 := Lib.hid ((O4.out.grown hg3 hr3).alloc (.cells #[.string (tx n), .string (tx v)] 63))
            have A5 := Lib.hid (Blk.new w6 63 #[.string (tx n), .string (tx v)])
            clear hr3 hg3 O4 ha HAT HSK HD1 HD2 HSP hltr hrest3 hsub hsub2 hz
            go_upto_region 15 with fail
            obtain ⟨w7, hw7⟩ : ∃ w7, w6.alloc (.cells #[.string (tx n), .string (tx v)] 63) = w7 := ⟨_, rfl⟩
            rw [hw7] at O5 A5 ⊢
            clear hw7
            obtain ⟨ab, hab⟩ : ∃ ab, w6.heap.size = ab := ⟨_, rfl⟩
            rw [hab] at A5 ⊢
            clear hab
            go_wp2_with fail
            have g1 := tx_toL n
            go_loopw [8] (fun jv wr2 => ∃ j : Nat, j ≤ acc.length ∧ jv = .int .i64 j ∧ Hid (OX w wr2 g S i3 b nm acc A c false ∧ Blk wr2 ab 63 #[.string (tx n), .string (tx v)] ∧ ∀ q (hq : q < acc.length), q < j → acc[q].1 ≠ n)) (fun jv _ => acc.length - (intOf jv).toNat)
            case atStart => exact ⟨0, by omega, rfl, Lib.hid ⟨O5.out, A5.out, fun q _ h => by omega⟩⟩
            case round =>
              clear O5 A5
              obtain ⟨j, hj, rfl, hno⟩ := hrel
              have O5 := Lib.hid hno.out.1
              have A5 := Lib.hid hno.out.2.1
              have NO := Lib.hid hno.out.2.2
              have RR5 := Lib.hid (RowR.of O5.out.2 (Nat.le_refl _))
              clear hno
              have y3 := O5.out.1.2.1.cell 3
              by_cases hlt : j < acc.length
              · obtain ⟨b5, o5, c5, he5, hb5, hc5, hcell5⟩ := RR5.out.some (by omega)
                injection he5 with q1 q2 q3
                have HE5 := Lib.hid q1
                have y3' : wr.cell? ⟨b, 3, none⟩ = some (.slice (some ⟨b5, o5, none⟩) acc.length c) := by rw [y3, q1]; rfl
                have x5 : wr.cell? ⟨b5, o5 + j * 2, none⟩ = some (.string (tx acc[j].1)) := hcell5 _ _ (attrCells_at acc j hlt)
                obtain ⟨m, hm⟩ : ∃ m, acc[j].1 = m := ⟨_, rfl⟩
                have HM := Lib.hid hm
                rw [hm] at x5
                have a0 := A5.out.cell 0
                have g2 := tx_toL m
                have hltI : (j : Int) < (acc.length : Int) := by omega
                clear y3 hcell5 hb5 hc5 q1 q2 q3 hm
                by_cases hmn : m = n
                · have HA : Hid (openL ((bs S).drop (k + 1)) = none) := Lib.hid (by
                    rw [HO.out, HMORE.out true (taken_yes hlt (HM.out.trans hmn))]; rfl)
                  have hmb : (m == n) = true := by rw [beq_iff_eq]; exact hmn
                  clear hmn
                  go_upto_region 20 with fail
                  go_region_held3 (fun w' => w'.cell? ⟨b, 3, none⟩ = some (.slice (some ⟨b5, o5, none⟩) acc.length c) ∧ w'.cell? ⟨b5, o5 + j * 2, none⟩ = some (.string (tx m)) ∧ w'.cell? ⟨ab, 0, none⟩ = some (.string (tx n))) (first | exact ⟨y3', x5, a0⟩ | fail) (fail)
                  rename_i hheld
                  clear hheld
                  have O6 := Lib.hid O5.out.drew
                  go_upto_region 21 with fail
                  obtain ⟨w8, hw8⟩ : ∃ w8, wr.drew = w8 := ⟨_, rfl⟩
                  rw [hw8] at O6 ⊢
                  clear hw8 O5 A5 y3' x5 a0 RR5
                  have QQ := Lib.hid (PX.fin O6.out.1.1 (.int .i64 1) (.string (tx nm)) (.string ⟨#[]⟩) (.slice A acc.length c) (.bool false))
                  have DD := Lib.hid (PX.ed O6.out.1.1 (.int .i64 1) (.string (tx nm)) (.string ⟨#[]⟩) (.slice A acc.length c) (.bool false))
                  obtain ⟨q0, q1, x0, x1, x2, x3, x4⟩ := PX.rd O6.out.1.1
                  obtain ⟨f1, f50, f51, f52, f53, f54⟩ := PX.fz O6.out.1.1
                  obtain ⟨y0, y1, y2, y3, y4⟩ := TX.rd O6.out.1
                  clear O6
                  go_wp2_with fail
                  exact bodyPost_ret (v := .tuple #[.agg #[.int .i64 1, .string (tx nm), .string ⟨#[]⟩, .slice A acc.length c, .bool false], .bool false]) (by obtain ⟨d0, d1, d2, d3, d4⟩ := DD.out; simp [results, Tryz.results37, go_sem, d0, d1, d2, d3, d4]) rfl (rtPost_none HA.out rfl hi3 QQ.out.1 QQ.out.2)
                · have hmb : (m == n) = false := by rw [beq_eq_false_iff_ne]; exact hmn
                  have hup : Hid (OX w wr.drew g S i3 b nm acc A c false ∧ Blk wr.drew ab 63 #[.string (tx n), .string (tx v)] ∧ ∀ q (hq : q < acc.length), q < j + 1 → acc[q].1 ≠ n) := Lib.hid (by
                    refine ⟨O5.out.drew, A5.out, ?_⟩
                    intro q hq h
                    by_cases e : q = j
                    · subst e; rw [HM.out]; exact hmn
                    · exact NO.out q hq (by omega))
                  go_upto_region 20 with fail
                  go_region_held3 (fun w' => w'.cell? ⟨b, 3, none⟩ = some (.slice (some ⟨b5, o5, none⟩) acc.length c) ∧ w'.cell? ⟨b5, o5 + j * 2, none⟩ = some (.string (tx m)) ∧ w'.cell? ⟨ab, 0, none⟩ = some (.string (tx n))) (first | exact ⟨y3', x5, a0⟩ | fail) (fail)
                  rename_i hheld
                  clear hheld
                  go_wp2_with fail
                  go_roundw
                  case rel => exact ⟨j + 1, by omega, by go_num, hup⟩
                  case measure => simp [intOf]; omega
              · obtain rfl : j = acc.length := by omega
                have HAT2 : Hid (attrsL (acc ++ [(n, v)]) ((bs S).drop i3) = X) := Lib.hid (by
                  have := HMORE.out false (taken_no NO.out)
                  rw [this]; rfl)
                have hacc : acc.length ≤ 100000 := by omega
                have hws7 : w.heap.size ≤ wr.heap.size := O5.out.1.1.2.2.1.size
                have HR := Lib.hid O5.out.2
                have a0 := A5.out.cell 0
                have a1 := A5.out.cell 1
                clear RR5 NO HMORE HO hlt
                go_wp2_with (at_builtin
                             refine wpList_append_own_at _ rfl _ _ 30 rfl w.heap.size 63 i0 _ 2 32 Tryz.underlying30 hi0 hz0 hz1 hz2 rfl (by decide) _ acc.length (attrCells acc) rfl (HR.out.alloc _) ⟨wr.heap.size, 0, none⟩ 1 1 [.string (tx n), .string (tx v)] rfl rfl (cells_two_new _ _ _ _) (two_oneCell _ _) (by unfold maxLen; omega) (by omega) (by simp; omega) ?_
                             intro v' w8 hown8 hgrow8 _ _
                             obtain ⟨A', c', rfl⟩ := own_form hown8
                             have HR8 := Lib.hid hown8
                             have HG8 := Lib.hid hgrow8
                             have hTR : (Value.slice A acc.length c).ownBlock ≠ some b := own_ne HR.out O5.out.1.2.1 (by decide)
                             have hBR : (Value.slice A acc.length c).ownBlock ≠ some w.heap.size := own_ne HR.out O5.out.1.1.2.1 (by decide)
                             have hgR : (Value.slice A acc.length c).ownBlock ≠ some g := fun e => by have := (HR.out.lt g e).1; have := O5.out.1.1.2.2.2; omega
                             clear hown8 hgrow8
                             have HT8 := Lib.hid ((O5.out.1.2.1.alloc _).grown HG8.out (fun e => hTR e.symm))
                             have z3 := HT8.out.cell 3
                             have v3 := HT8.out.frozen 3)
                have hgb : g ≠ b := by have := O5.out.1.1.2.2.2; have := O5.out.1.2.2; omega
                have hAb : w.heap.size ≠ b := by have := O5.out.1.2.2; omega
                have hlen2 : (acc ++ [(n, v)]).length = acc.length + 1 := by simp
                have RW8 : RW g S i3 w8 := (Blk.alloc O5.out.1.1.1 _).grown HG8.out (fun e => hgR e.symm)
                have B8 := (O5.out.1.1.2.1.alloc (.cells #[.string (tx n), .string (tx v)] 63)).grown HG8.out (fun e => hBR e.symm)
                have G8 := (O5.out.1.1.2.2.1.trans (World.grownBy_alloc wr (.cells #[.string (tx n), .string (tx v)] 63) _)).andThen HG8.out (fun j hj => .inl (HR.out.lt j hj).1)
                have P8 : PX w w8 g S i3 := ⟨RW8, B8, G8, O5.out.1.1.2.2.2⟩
                have HFIN : OX w (w8.setCell ⟨b, 3, none⟩ (.slice A' (acc.length + 1) c')) g S i3 b nm (acc ++ [(n, v)]) A' c' false := by
                  refine ⟨⟨P8.set_new O5.out.1.2.2 3 _, ?_, O5.out.1.2.2⟩, ?_⟩
                  · rw [hlen2]; exact HT8.out.set 3 _
                  · rw [hlen2, attrCells_snoc]
                    exact HR8.out.kept (grown_set _ _ _ _) (.inr (own_ne HR8.out HT8.out (by decide)))
                refine ⟨⟨i3, acc ++ [(n, v)], A', c', ?_⟩, ?_⟩
                · exact ⟨hi3, by rw [hlen2]; omega, Lib.hid ⟨HFIN, HAT2.out⟩⟩
                · rw [HFIN.1.1.1.at, HWR.out]; omega
end Go.Proofs.YtlfpmfdlfhldbaaGreatDoor
