/-
  The document's own answers (layer 2): the walk: one token.
-/
import Derived.Test.YtlfpmfdlfhldbaaGreatDoorRfOpen
import Derived.Test.YtlfpmfdlfhldbaaGreatDoorRfClose
import Derived.Test.YtlfpmfdlfhldbaaGreatDoorRfComment
import Derived.Deep.Onto
namespace Nwl
open Go
theorem tok_1 {f : Bool} {l : List UInt8} (h1 : Lib.hasPrefix l [60, 33, 45, 45] = true) : tokL f l = commentL (l.drop 4) := by unfold tokL; rw [if_pos h1]
theorem tok_2 {f : Bool} {l : List UInt8} (h1 : Lib.hasPrefix l [60, 33, 45, 45] = false) (h2 : Lib.hasPrefix l [60, 33, 91, 67, 68, 65, 84, 65, 91] = true) : tokL f l = (cutL [93, 93, 62] (l.drop 9)).map fun (x, rest) => (⟨3, [], x, [], false⟩, rest) := by
  unfold tokL; rw [if_neg (by rw [h1]; decide), if_pos h2]
theorem tok_3 {f : Bool} {l : List UInt8} (h1 : Lib.hasPrefix l [60, 33, 45, 45] = false) (h2 : Lib.hasPrefix l [60, 33, 91, 67, 68, 65, 84, 65, 91] = false) (h3 : Lib.hasPrefix l [60, 63] = true) : tokL f l = if f then (cutL [63, 62] (l.drop 2)).map fun (x, rest) => (⟨5, [], x, [], false⟩, rest) else none := by
  unfold tokL; rw [if_neg (by rw [h1]; decide), if_neg (by rw [h2]; decide), if_pos h3]
theorem tok_4 {f : Bool} {l : List UInt8} (h1 : Lib.hasPrefix l [60, 33, 45, 45] = false) (h2 : Lib.hasPrefix l [60, 33, 91, 67, 68, 65, 84, 65, 91] = false) (h3 : Lib.hasPrefix l [60, 63] = false) (h4 : Lib.hasPrefix l [60, 47] = true) : tokL f l = closeL (l.drop 2) := by
  unfold tokL; rw [if_neg (by rw [h1]; decide), if_neg (by rw [h2]; decide), if_neg (by rw [h3]; decide), if_pos h4]
theorem tok_5 {f : Bool} {l : List UInt8} (h1 : Lib.hasPrefix l [60, 33, 45, 45] = false) (h2 : Lib.hasPrefix l [60, 33, 91, 67, 68, 65, 84, 65, 91] = false) (h3 : Lib.hasPrefix l [60, 63] = false) (h4 : Lib.hasPrefix l [60, 47] = false) (h5 : Lib.hasPrefix l [60] = true) : tokL f l = openL (l.drop 1) := by
  unfold tokL; rw [if_neg (by rw [h1]; decide), if_neg (by rw [h2]; decide), if_neg (by rw [h3]; decide), if_neg (by rw [h4]; decide), if_pos h5]
theorem tok_6 {f : Bool} {l : List UInt8} (h1 : Lib.hasPrefix l [60, 33, 45, 45] = false) (h2 : Lib.hasPrefix l [60, 33, 91, 67, 68, 65, 84, 65, 91] = false) (h3 : Lib.hasPrefix l [60, 63] = false) (h4 : Lib.hasPrefix l [60, 47] = false) (h5 : Lib.hasPrefix l [60] = false) : tokL f l = textL l := by
  unfold tokL; rw [if_neg (by rw [h1]; decide), if_neg (by rw [h2]; decide), if_neg (by rw [h3]; decide), if_neg (by rw [h4]; decide), if_neg (by rw [h5]; decide)]
theorem tw_byte : ∀ l : List UInt8, (Lib.indexByte l 60 = -1 ∧ l.takeWhile (· != 60) = l ∧ l.dropWhile (· != 60) = []) ∨ (∃ i : Nat, Lib.indexByte l 60 = i ∧ i < l.length ∧ l.takeWhile (· != 60) = l.take i ∧ l.dropWhile (· != 60) = l.drop i)
  | [] => .inl ⟨rfl, rfl, rfl⟩
  | c :: l => by
    by_cases h : c = 60
    · subst h
      exact .inr ⟨0, rfl, by simp, rfl, rfl⟩
    · have hb : (c == 60) = false := by rw [beq_eq_false_iff_ne]; exact h
      have hn : (c != 60) = true := by rw [bne, hb]; rfl
      rcases tw_byte l with ⟨h1, h2, h3⟩ | ⟨i, h1, h2, h3, h4⟩
      · refine .inl ⟨?_, ?_, ?_⟩
        · rw [Lib.indexByte, hb, h1]; rfl
        · rw [List.takeWhile_cons, hn, if_pos rfl, h2]
        · rw [List.dropWhile_cons, hn, if_pos rfl, h3]
      · refine .inr ⟨i + 1, ?_, by rw [List.length_cons]; omega, ?_, ?_⟩
        · rw [Lib.indexByte, hb, h1]
          have : ((i : Int) == -1) = false := by rw [beq_eq_false_iff_ne]; omega
          rw [this]; simp
        · rw [List.takeWhile_cons, hn, if_pos rfl, h3]; rfl
        · rw [List.dropWhile_cons, hn, if_pos rfl, h4]; rfl
/-- where a text ends -/
theorem text_end (S : ByteArray) (k : Nat) (hk : k ≤ S.size) : ∃ e : Nat, k ≤ e ∧ e ≤ S.size ∧ ((bs S).drop k).takeWhile (· != 60) = bs (S.extract k e) ∧ ((bs S).drop k).dropWhile (· != 60) = (bs S).drop e ∧ ((findI (bs S) [60] k < 0 ∧ e = S.size) ∨ (¬ findI (bs S) [60] k < 0 ∧ findI (bs S) [60] k = e)) := by
  have hi : Lib.index ((bs S).drop k) [60] = Lib.indexByte ((bs S).drop k) 60 := Lib.index_one _ _
  rcases tw_byte ((bs S).drop k) with ⟨h1, h2, h3⟩ | ⟨i, h1, h2, h3, h4⟩
  · refine ⟨S.size, hk, Nat.le_refl _, ?_, ?_, .inl ⟨?_, rfl⟩⟩
    · rw [h2, bs_from]
    · rw [h3, List.drop_eq_nil_of_le (by rw [bs_length]; exact Nat.le_refl _)]
    · unfold findI; rw [hi, h1, if_neg (by decide)]; decide
  · rw [List.length_drop, bs_length] at h2
    refine ⟨k + i, by omega, by omega, ?_, ?_, .inr ⟨?_, ?_⟩⟩
    · rw [h3, bs_extract]; congr 1; omega
    · rw [h4, List.drop_drop]
    · unfold findI; rw [hi, h1, if_pos (by omega)]; omega
    · unfold findI; rw [hi, h1, if_pos (by omega)]; rfl
end Nwl
namespace Go.Proofs.YtlfpmfdlfhldbaaGreatDoor
open Nwl
open Go.RowKit Go.Maps
set_option linter.unusedVariables false
set_option linter.unusedSimpArgs false
theorem PX.below {w W W' : World} {g i : Nat} {S : ByteArray} (h : PX w W g S i) (hb : Below W.heap.size W W') : PX w W' g S i :=
  h.grown ⟨hb.os, hb.tape, hb.output, hb.size, fun b hl _ => hb.block b hl⟩ (Blk.below h.1 hb)

set_option maxRecDepth 100000 in
set_option maxHeartbeats 16000000 in
theorem rnext_c (g : Nat) (S : ByteArray) (k : Nat) (w : World) (h : RW g S k w) (hk : k ≤ S.size) (hs : S.size ≤ 100000) :
    Calls Tryz.prog 15 #[.pointer (some ⟨g, 0, none⟩)] w (RtPost g S (tokL (decide (k = 0)) ((bs S).drop k)) w) := by
  have P0 := Lib.hid (PX.start h)
  clear h
  obtain ⟨d1, hd1⟩ : ∃ d, Lib.hasPrefix ((bs S).drop k) (bs ⟨#[60, 33, 45, 45]⟩) = d := ⟨_, rfl⟩
  have HD1 := Lib.hid hd1
  obtain ⟨d2, hd2⟩ : ∃ d, Lib.hasPrefix ((bs S).drop k) (bs ⟨#[60, 33, 91, 67, 68, 65, 84, 65, 91]⟩) = d := ⟨_, rfl⟩
  have HD2 := Lib.hid hd2
  obtain ⟨d3, hd3⟩ : ∃ d, Lib.hasPrefix ((bs S).drop k) (bs ⟨#[60, 63]⟩) = d := ⟨_, rfl⟩
  have HD3 := Lib.hid hd3
  obtain ⟨d4, hd4⟩ : ∃ d, Lib.hasPrefix ((bs S).drop k) (bs ⟨#[60, 47]⟩) = d := ⟨_, rfl⟩
  have HD4 := Lib.hid hd4
  obtain ⟨d5, hd5⟩ : ∃ d, Lib.hasPrefix ((bs S).drop k) (bs ⟨#[60]⟩) = d := ⟨_, rfl⟩
  have HD5 := Lib.hid hd5
  clear hd1 hd2 hd3 hd4 hd5
  obtain ⟨wa, hwa⟩ : ∃ wa, w.alloc (.cells tz 32) = wa := ⟨_, rfl⟩
  go_enter Tryz.func15, Tryz.ntmps15
  go_upto_region 1 with fail
  rw [hwa] at P0
  try rw [hwa]
  clear hwa
  go_upto_region 1 with fail
  go_region_held3 (fun w' => w'.cell? ⟨g, 0, none⟩ = some (.string S) ∧ w'.cell? ⟨g, 1, none⟩ = some (.int .i64 (k : Int))) (first | exact ⟨P0.out.1.c0, P0.out.1.c1⟩ | fail) (first | (go_at_call 33; refine (begins_c' S ⟨#[60, 33, 45, 45]⟩ k _ (by omega) (by decide) (by decide) (by omega)).mono ?_; rintro e w9 ⟨rfl, rfl⟩; rw [HD1.out]))
  rename_i hheld
  clear hheld
  have P1 := Lib.hid P0.out.drew
  obtain ⟨wb, hwb⟩ : ∃ wb, wa.drew = wb := ⟨_, rfl⟩
  rw [hwb] at P1 ⊢
  clear hwb P0
  cases d1 with
  | true =>
    have hl1 : k + 4 ≤ S.size := by
      have h1 := prefix_len HD1.out
      have h2 := bs_length S
      rw [List.length_drop] at h1
      have h3 : (bs ⟨#[60, 33, 45, 45]⟩).length = 4 := rfl
      omega
    have HA : Hid (tokL (decide (k = 0)) ((bs S).drop k) = commentL ((bs S).drop (k + 4))) := Lib.hid (by rw [tok_1 HD1.out, List.drop_drop])
    clear HD1 HD2 HD3 HD4 HD5
    go_wp2_with fail
    refine (rcomment_c g S k _ P1.out.1 hl1 hs).mono ?_
    intro e w1 hpost
    obtain ⟨x, hx⟩ : ∃ x, commentL ((bs S).drop (k + 4)) = x := ⟨_, rfl⟩
    rw [hx] at hpost HA
    clear hx
    cases x with
    | none =>
      obtain ⟨⟨kk, n1, n2, A, l, c, em, rfl⟩, ⟨i, hi, hr1⟩, hg1⟩ := hpost
      have Q1 := Lib.hid (P1.out.grown hg1 hr1)
      clear P1 hr1 hg1
      have QQ := Lib.hid (PX.fin Q1.out (.int .i64 kk) (.string n1) (.string n2) (.slice A l c) (.bool em))
      have DD := Lib.hid (PX.ed Q1.out (.int .i64 kk) (.string n1) (.string n2) (.slice A l c) (.bool em))
      obtain ⟨z0, z1, x0, x1, x2, x3, x4⟩ := PX.rd Q1.out
      obtain ⟨f1, f50, f51, f52, f53, f54⟩ := PX.fz Q1.out
      clear Q1
      go_wp2_with fail
      exact bodyPost_ret (v := .tuple #[.agg #[.int .i64 kk, .string n1, .string n2, .slice A l c, .bool em], .bool false]) (by obtain ⟨d0, d1, d2, d3, d4⟩ := DD.out; simp [results, Tryz.results15, go_sem, d0, d1, d2, d3, d4]) rfl (rtPost_none HA.out rfl hi QQ.out.1 QQ.out.2)
    | some p =>
      obtain ⟨⟨kd, nm, ts, at1, em⟩, rest⟩ := p
      obtain ⟨⟨A, l, c, rfl, hrow⟩, ⟨i, hi, hrest, hr1⟩, hg1⟩ := hpost
      have Q1 := Lib.hid (P1.out.grown hg1 hr1)
      have RR := Lib.hid ((row_done hrow Q1.out.2.1 (.int .i64 (kd : Int)) (.string (tx nm)) (.string (tx ts)) (.slice A l c) (.bool em)).mono P1.out.2.2.1.size)
      clear P1 hr1 hg1 hrow
      have QQ := Lib.hid (PX.fin Q1.out (.int .i64 (kd : Int)) (.string (tx nm)) (.string (tx ts)) (.slice A l c) (.bool em))
      have DD := Lib.hid (PX.ed Q1.out (.int .i64 (kd : Int)) (.string (tx nm)) (.string (tx ts)) (.slice A l c) (.bool em))
      obtain ⟨z0, z1, x0, x1, x2, x3, x4⟩ := PX.rd Q1.out
      obtain ⟨f1, f50, f51, f52, f53, f54⟩ := PX.fz Q1.out
      clear Q1
      go_wp2_with fail
      exact bodyPost_ret (v := .tuple #[.agg #[.int .i64 (kd : Int), .string (tx nm), .string (tx ts), .slice A l c, .bool em], .bool true]) (by obtain ⟨d0, d1, d2, d3, d4⟩ := DD.out; simp [results, Tryz.results15, go_sem, d0, d1, d2, d3, d4]) rfl (by rw [HA.out]; exact ⟨⟨A, l, c, rfl, RR.out⟩, ⟨i, hi, hrest, QQ.out.1⟩, QQ.out.2⟩)
  | false =>
    go_upto_region 3 with fail
    go_region_held3 (fun w' => w'.cell? ⟨g, 0, none⟩ = some (.string S) ∧ w'.cell? ⟨g, 1, none⟩ = some (.int .i64 (k : Int))) (first | exact ⟨P1.out.1.c0, P1.out.1.c1⟩ | fail) (first | (go_at_call 33; refine (begins_c' S ⟨#[60, 33, 91, 67, 68, 65, 84, 65, 91]⟩ k _ (by omega) (by decide) (by decide) (by omega)).mono ?_; rintro e w9 ⟨rfl, rfl⟩; rw [HD2.out]))
    rename_i hheld
    clear hheld
    have P2 := Lib.hid P1.out.drew
    obtain ⟨wc, hwc⟩ : ∃ wc, wb.drew = wc := ⟨_, rfl⟩
    rw [hwc] at P2 ⊢
    clear hwc P1
    cases d2 with
    | true =>
      have hl2 : k + 9 ≤ S.size := by
        have h1 := prefix_len HD2.out
        have h2 := bs_length S
        rw [List.length_drop] at h1
        have h3 : (bs ⟨#[60, 33, 91, 67, 68, 65, 84, 65, 91]⟩).length = 9 := rfl
        omega
      obtain ⟨x, hx⟩ : ∃ x, cutL [93, 93, 62] ((bs S).drop (k + 9)) = x := ⟨_, rfl⟩
      have HX := Lib.hid hx
      have HA : Hid (tokL (decide (k = 0)) ((bs S).drop k) = x.map fun (x, rest) => (⟨3, [], x, [], false⟩, rest)) := Lib.hid (by rw [tok_2 HD1.out HD2.out, List.drop_drop, hx])
      clear hx HD1 HD2 HD3 HD4 HD5
      have hwr : IntKind.i64.wrap ((k : Int) + 9) = ((k + 9 : Nat) : Int) := wrapR (by omega) (by omega)
      have z1 := P2.out.1.c1
      go_wp2_with fail
      refine (rupto_c g S ⟨#[93, 93, 62]⟩ k (k + 9) _ P2.out.1 hl2 hs (by decide) (by decide)).mono ?_
      intro e w1 hp
      rw [show cutL (bs ⟨#[93, 93, 62]⟩) ((bs S).drop (k + 9)) = x from HX.out] at hp
      clear z1 hwr
      cases x with
      | none =>
        obtain ⟨hr1, rfl, hg1⟩ := hp
        have Q1 := Lib.hid (P2.out.grown hg1 hr1)
        clear P2 hr1 hg1
        have QQ := Lib.hid (PX.fin Q1.out (.int .i64 3) (.string ⟨#[]⟩) (.string ⟨#[]⟩) (.slice none 0 0) (.bool false))
        have DD := Lib.hid (PX.ed Q1.out (.int .i64 3) (.string ⟨#[]⟩) (.string ⟨#[]⟩) (.slice none 0 0) (.bool false))
        obtain ⟨z0, z1, x0, x1, x2, x3, x4⟩ := PX.rd Q1.out
        obtain ⟨f1, f50, f51, f52, f53, f54⟩ := PX.fz Q1.out
        clear Q1
        go_wp2_with fail
        exact bodyPost_ret (v := .tuple #[.agg #[.int .i64 3, .string ⟨#[]⟩, .string ⟨#[]⟩, .slice none 0 0, .bool false], .bool false]) (by obtain ⟨d0, d1, d2, d3, d4⟩ := DD.out; simp [results, Tryz.results15, go_sem, d0, d1, d2, d3, d4]) rfl (rtPost_none HA.out rfl hk QQ.out.1 QQ.out.2)
      | some p =>
        obtain ⟨a, rest⟩ := p
        obtain ⟨⟨i, hi, hrest, hr1⟩, rfl, hg1⟩ := hp
        have Q1 := Lib.hid (P2.out.grown hg1 hr1)
        have HRE := Lib.hid hrest
        clear P2 hr1 hg1 hrest
        have QQ := Lib.hid (PX.fin Q1.out (.int .i64 3) (.string ⟨#[]⟩) (.string (tx a)) (.slice none 0 0) (.bool false))
        have DD := Lib.hid (PX.ed Q1.out (.int .i64 3) (.string ⟨#[]⟩) (.string (tx a)) (.slice none 0 0) (.bool false))
        obtain ⟨z0, z1, x0, x1, x2, x3, x4⟩ := PX.rd Q1.out
        obtain ⟨f1, f50, f51, f52, f53, f54⟩ := PX.fz Q1.out
        clear Q1
        go_wp2_with fail
        exact bodyPost_ret (v := .tuple #[.agg #[.int .i64 3, .string ⟨#[]⟩, .string (tx a), .slice none 0 0, .bool false], .bool true]) (by obtain ⟨d0, d1, d2, d3, d4⟩ := DD.out; simp [results, Tryz.results15, go_sem, d0, d1, d2, d3, d4]) rfl (rtPost_plain HA.out rfl hi HRE.out QQ.out.1 QQ.out.2)
    | false =>
      go_upto_region 6 with fail
      go_region_held3 (fun w' => w'.cell? ⟨g, 0, none⟩ = some (.string S) ∧ w'.cell? ⟨g, 1, none⟩ = some (.int .i64 (k : Int))) (first | exact ⟨P2.out.1.c0, P2.out.1.c1⟩ | fail) (first | (go_at_call 33; refine (begins_c' S ⟨#[60, 63]⟩ k _ (by omega) (by decide) (by decide) (by omega)).mono ?_; rintro e w9 ⟨rfl, rfl⟩; rw [HD3.out]))
      rename_i hheld
      clear hheld
      have P3 := Lib.hid P2.out.drew
      obtain ⟨wd, hwd⟩ : ∃ wd, wc.drew = wd := ⟨_, rfl⟩
      rw [hwd] at P3 ⊢
      clear hwd P2
      cases d3 with
      | true =>
        have hl3 : k + 2 ≤ S.size := by
          have h1 := prefix_len HD3.out
          have h2 := bs_length S
          rw [List.length_drop] at h1
          have h3 : (bs ⟨#[60, 63]⟩).length = 2 := rfl
          omega
        obtain ⟨x, hx⟩ : ∃ x, cutL [63, 62] ((bs S).drop (k + 2)) = x := ⟨_, rfl⟩
        have HX := Lib.hid hx
        have HA0 : Hid (tokL (decide (k = 0)) ((bs S).drop k) = if decide (k = 0) then x.map fun (x, rest) => (⟨5, [], x, [], false⟩, rest) else none) := Lib.hid (by rw [tok_3 HD1.out HD2.out HD3.out, List.drop_drop, hx])
        clear hx HD1 HD2 HD3 HD4 HD5
        have hwr : IntKind.i64.wrap ((k : Int) + 2) = ((k + 2 : Nat) : Int) := wrapR (by omega) (by omega)
        have z1 := P3.out.1.c1
        by_cases hk0 : k = 0
        · have HA : Hid (tokL (decide (k = 0)) ((bs S).drop k) = x.map fun (x, rest) => (⟨5, [], x, [], false⟩, rest)) := Lib.hid (by rw [HA0.out, decide_eq_true hk0]; rfl)
          have hkb : ((k : Int) == 0) = true := by rw [beq_iff_eq]; omega
          clear HA0 hk0
          go_wp2_with fail
          refine (rupto_c g S ⟨#[63, 62]⟩ k (k + 2) _ P3.out.1 hl3 hs (by decide) (by decide)).mono ?_
          intro e w1 hp
          rw [show cutL (bs ⟨#[63, 62]⟩) ((bs S).drop (k + 2)) = x from HX.out] at hp
          clear z1 hwr
          cases x with
          | none =>
            obtain ⟨hr1, rfl, hg1⟩ := hp
            have Q1 := Lib.hid (P3.out.grown hg1 hr1)
            clear P3 hr1 hg1
            have QQ := Lib.hid (PX.fin Q1.out (.int .i64 5) (.string ⟨#[]⟩) (.string ⟨#[]⟩) (.slice none 0 0) (.bool false))
            have DD := Lib.hid (PX.ed Q1.out (.int .i64 5) (.string ⟨#[]⟩) (.string ⟨#[]⟩) (.slice none 0 0) (.bool false))
            obtain ⟨z0, z1, x0, x1, x2, x3, x4⟩ := PX.rd Q1.out
            obtain ⟨f1, f50, f51, f52, f53, f54⟩ := PX.fz Q1.out
            clear Q1
            go_wp2_with fail
            exact bodyPost_ret (v := .tuple #[.agg #[.int .i64 5, .string ⟨#[]⟩, .string ⟨#[]⟩, .slice none 0 0, .bool false], .bool false]) (by obtain ⟨d0, d1, d2, d3, d4⟩ := DD.out; simp [results, Tryz.results15, go_sem, d0, d1, d2, d3, d4]) rfl (rtPost_none HA.out rfl hk QQ.out.1 QQ.out.2)
          | some p =>
            obtain ⟨a, rest⟩ := p
            obtain ⟨⟨i, hi, hrest, hr1⟩, rfl, hg1⟩ := hp
            have Q1 := Lib.hid (P3.out.grown hg1 hr1)
            have HRE := Lib.hid hrest
            clear P3 hr1 hg1 hrest
            have QQ := Lib.hid (PX.fin Q1.out (.int .i64 5) (.string ⟨#[]⟩) (.string (tx a)) (.slice none 0 0) (.bool false))
            have DD := Lib.hid (PX.ed Q1.out (.int .i64 5) (.string ⟨#[]⟩) (.string (tx a)) (.slice none 0 0) (.bool false))
            obtain ⟨z0, z1, x0, x1, x2, x3, x4⟩ := PX.rd Q1.out
            obtain ⟨f1, f50, f51, f52, f53, f54⟩ := PX.fz Q1.out
            clear Q1
            go_wp2_with fail
            exact bodyPost_ret (v := .tuple #[.agg #[.int .i64 5, .string ⟨#[]⟩, .string (tx a), .slice none 0 0, .bool false], .bool true]) (by obtain ⟨d0, d1, d2, d3, d4⟩ := DD.out; simp [results, Tryz.results15, go_sem, d0, d1, d2, d3, d4]) rfl (rtPost_plain HA.out rfl hi HRE.out QQ.out.1 QQ.out.2)
        · have HA : Hid (tokL (decide (k = 0)) ((bs S).drop k) = none) := Lib.hid (by rw [HA0.out, decide_eq_false hk0]; rfl)
          have hkb : ((k : Int) == 0) = false := by rw [beq_eq_false_iff_ne]; omega
          clear HA0 hk0
          go_wp2_with fail
          refine (rupto_c g S ⟨#[63, 62]⟩ k (k + 2) _ P3.out.1 hl3 hs (by decide) (by decide)).mono ?_
          intro e w1 hp
          rw [show cutL (bs ⟨#[63, 62]⟩) ((bs S).drop (k + 2)) = x from HX.out] at hp
          clear z1 hwr
          cases x with
          | none =>
            obtain ⟨hr1, rfl, hg1⟩ := hp
            have Q1 := Lib.hid (P3.out.grown hg1 hr1)
            clear P3 hr1 hg1
            have QQ := Lib.hid (PX.fin Q1.out (.int .i64 5) (.string ⟨#[]⟩) (.string ⟨#[]⟩) (.slice none 0 0) (.bool false))
            have DD := Lib.hid (PX.ed Q1.out (.int .i64 5) (.string ⟨#[]⟩) (.string ⟨#[]⟩) (.slice none 0 0) (.bool false))
            obtain ⟨z0, z1, x0, x1, x2, x3, x4⟩ := PX.rd Q1.out
            obtain ⟨f1, f50, f51, f52, f53, f54⟩ := PX.fz Q1.out
            clear Q1
            go_wp2_with fail
            exact bodyPost_ret (v := .tuple #[.agg #[.int .i64 5, .string ⟨#[]⟩, .string ⟨#[]⟩, .slice none 0 0, .bool false], .bool false]) (by obtain ⟨d0, d1, d2, d3, d4⟩ := DD.out; simp [results, Tryz.results15, go_sem, d0, d1, d2, d3, d4]) rfl (rtPost_none HA.out rfl hk QQ.out.1 QQ.out.2)
          | some p =>
            obtain ⟨a, rest⟩ := p
            obtain ⟨⟨i, hi, hrest, hr1⟩, rfl, hg1⟩ := hp
            have Q1 := Lib.hid (P3.out.grown hg1 hr1)
            have HRE := Lib.hid hrest
            clear P3 hr1 hg1 hrest
            have QQ := Lib.hid (PX.fin Q1.out (.int .i64 5) (.string ⟨#[]⟩) (.string (tx a)) (.slice none 0 0) (.bool false))
            have DD := Lib.hid (PX.ed Q1.out (.int .i64 5) (.string ⟨#[]⟩) (.string (tx a)) (.slice none 0 0) (.bool false))
            obtain ⟨z0, z1, x0, x1, x2, x3, x4⟩ := PX.rd Q1.out
            obtain ⟨f1, f50, f51, f52, f53, f54⟩ := PX.fz Q1.out
            clear Q1
            go_wp2_with fail
            exact bodyPost_ret (v := .tuple #[.agg #[.int .i64 5, .string ⟨#[]⟩, .string (tx a), .slice none 0 0, .bool false], .bool false]) (by obtain ⟨d0, d1, d2, d3, d4⟩ := DD.out; simp [results, Tryz.results15, go_sem, d0, d1, d2, d3, d4]) rfl (rtPost_none HA.out rfl hi QQ.out.1 QQ.out.2)
      | false =>
        go_upto_region 10 with fail
        go_region_held3 (fun w' => w'.cell? ⟨g, 0, none⟩ = some (.string S) ∧ w'.cell? ⟨g, 1, none⟩ = some (.int .i64 (k : Int))) (first | exact ⟨P3.out.1.c0, P3.out.1.c1⟩ | fail) (first | (go_at_call 33; refine (begins_c' S ⟨#[60, 47]⟩ k _ (by omega) (by decide) (by decide) (by omega)).mono ?_; rintro e w9 ⟨rfl, rfl⟩; rw [HD4.out]))
        rename_i hheld
        clear hheld
        have P4 := Lib.hid P3.out.drew
        obtain ⟨we, hwe⟩ : ∃ we, wd.drew = we := ⟨_, rfl⟩
        rw [hwe] at P4 ⊢
        clear hwe P3
        cases d4 with
        | true =>
          have hl4 : k + 2 ≤ S.size := by
            have h1 := prefix_len HD4.out
            have h2 := bs_length S
            rw [List.length_drop] at h1
            have h3 : (bs ⟨#[60, 47]⟩).length = 2 := rfl
            omega
          have HA : Hid (tokL (decide (k = 0)) ((bs S).drop k) = closeL ((bs S).drop (k + 2))) := Lib.hid (by rw [tok_4 HD1.out HD2.out HD3.out HD4.out, List.drop_drop])
          clear HD1 HD2 HD3 HD4 HD5
          go_wp2_with fail
          refine (rclosing_c g S k _ P4.out.1 hl4 hs).mono ?_
          intro e w1 hpost
          obtain ⟨x, hx⟩ : ∃ x, closeL ((bs S).drop (k + 2)) = x := ⟨_, rfl⟩
          rw [hx] at hpost HA
          clear hx
          cases x with
          | none =>
            obtain ⟨⟨kk, n1, n2, A, l, c, em, rfl⟩, ⟨i, hi, hr1⟩, hg1⟩ := hpost
            have Q1 := Lib.hid (P4.out.grown hg1 hr1)
            clear P4 hr1 hg1
            have QQ := Lib.hid (PX.fin Q1.out (.int .i64 kk) (.string n1) (.string n2) (.slice A l c) (.bool em))
            have DD := Lib.hid (PX.ed Q1.out (.int .i64 kk) (.string n1) (.string n2) (.slice A l c) (.bool em))
            obtain ⟨z0, z1, x0, x1, x2, x3, x4⟩ := PX.rd Q1.out
            obtain ⟨f1, f50, f51, f52, f53, f54⟩ := PX.fz Q1.out
            clear Q1
            go_wp2_with fail
            exact bodyPost_ret (v := .tuple #[.agg #[.int .i64 kk, .string n1, .string n2, .slice A l c, .bool em], .bool false]) (by obtain ⟨d0, d1, d2, d3, d4⟩ := DD.out; simp [results, Tryz.results15, go_sem, d0, d1, d2, d3, d4]) rfl (rtPost_none HA.out rfl hi QQ.out.1 QQ.out.2)
          | some p =>
            obtain ⟨⟨kd, nm, ts, at1, em⟩, rest⟩ := p
            obtain ⟨⟨A, l, c, rfl, hrow⟩, ⟨i, hi, hrest, hr1⟩, hg1⟩ := hpost
            have Q1 := Lib.hid (P4.out.grown hg1 hr1)
            have RR := Lib.hid ((row_done hrow Q1.out.2.1 (.int .i64 (kd : Int)) (.string (tx nm)) (.string (tx ts)) (.slice A l c) (.bool em)).mono P4.out.2.2.1.size)
            clear P4 hr1 hg1 hrow
            have QQ := Lib.hid (PX.fin Q1.out (.int .i64 (kd : Int)) (.string (tx nm)) (.string (tx ts)) (.slice A l c) (.bool em))
            have DD := Lib.hid (PX.ed Q1.out (.int .i64 (kd : Int)) (.string (tx nm)) (.string (tx ts)) (.slice A l c) (.bool em))
            obtain ⟨z0, z1, x0, x1, x2, x3, x4⟩ := PX.rd Q1.out
            obtain ⟨f1, f50, f51, f52, f53, f54⟩ := PX.fz Q1.out
            clear Q1
            go_wp2_with fail
            exact bodyPost_ret (v := .tuple #[.agg #[.int .i64 (kd : Int), .string (tx nm), .string (tx ts), .slice A l c, .bool em], .bool true]) (by obtain ⟨d0, d1, d2, d3, d4⟩ := DD.out; simp [results, Tryz.results15, go_sem, d0, d1, d2, d3, d4]) rfl (by rw [HA.out]; exact ⟨⟨A, l, c, rfl, RR.out⟩, ⟨i, hi, hrest, QQ.out.1⟩, QQ.out.2⟩)
        | false =>
          go_upto_region 12 with fail
          go_region_held3 (fun w' => w'.cell? ⟨g, 0, none⟩ = some (.string S) ∧ w'.cell? ⟨g, 1, none⟩ = some (.int .i64 (k : Int))) (first | exact ⟨P4.out.1.c0, P4.out.1.c1⟩ | fail) (first | (go_at_call 33; refine (begins_c' S ⟨#[60]⟩ k _ (by omega) (by decide) (by decide) (by omega)).mono ?_; rintro e w9 ⟨rfl, rfl⟩; rw [HD5.out]))
          rename_i hheld
          clear hheld
          have P5 := Lib.hid P4.out.drew
          obtain ⟨wf, hwf⟩ : ∃ wf, we.drew = wf := ⟨_, rfl⟩
          rw [hwf] at P5 ⊢
          clear hwf P4
          cases d5 with
          | true =>
            have hl5 : k + 1 ≤ S.size := by
              have h1 := prefix_len HD5.out
              have h2 := bs_length S
              rw [List.length_drop] at h1
              have h3 : (bs ⟨#[60]⟩).length = 1 := rfl
              omega
            have HA : Hid (tokL (decide (k = 0)) ((bs S).drop k) = openL ((bs S).drop (k + 1))) := Lib.hid (by rw [tok_5 HD1.out HD2.out HD3.out HD4.out HD5.out, List.drop_drop])
            clear HD1 HD2 HD3 HD4 HD5
            go_wp2_with fail
            refine (ropen_c g S k _ P5.out.1 hl5 hs).mono ?_
            intro e w1 hpost
            obtain ⟨x, hx⟩ : ∃ x, openL ((bs S).drop (k + 1)) = x := ⟨_, rfl⟩
            rw [hx] at hpost HA
            clear hx
            cases x with
            | none =>
              obtain ⟨⟨kk, n1, n2, A, l, c, em, rfl⟩, ⟨i, hi, hr1⟩, hg1⟩ := hpost
              have Q1 := Lib.hid (P5.out.grown hg1 hr1)
              clear P5 hr1 hg1
              have QQ := Lib.hid (PX.fin Q1.out (.int .i64 kk) (.string n1) (.string n2) (.slice A l c) (.bool em))
              have DD := Lib.hid (PX.ed Q1.out (.int .i64 kk) (.string n1) (.string n2) (.slice A l c) (.bool em))
              obtain ⟨z0, z1, x0, x1, x2, x3, x4⟩ := PX.rd Q1.out
              obtain ⟨f1, f50, f51, f52, f53, f54⟩ := PX.fz Q1.out
              clear Q1
              go_wp2_with fail
              exact bodyPost_ret (v := .tuple #[.agg #[.int .i64 kk, .string n1, .string n2, .slice A l c, .bool em], .bool false]) (by obtain ⟨d0, d1, d2, d3, d4⟩ := DD.out; simp [results, Tryz.results15, go_sem, d0, d1, d2, d3, d4]) rfl (rtPost_none HA.out rfl hi QQ.out.1 QQ.out.2)
            | some p =>
              obtain ⟨⟨kd, nm, ts, at1, em⟩, rest⟩ := p
              obtain ⟨⟨A, l, c, rfl, hrow⟩, ⟨i, hi, hrest, hr1⟩, hg1⟩ := hpost
              have Q1 := Lib.hid (P5.out.grown hg1 hr1)
              have RR := Lib.hid ((row_done hrow Q1.out.2.1 (.int .i64 (kd : Int)) (.string (tx nm)) (.string (tx ts)) (.slice A l c) (.bool em)).mono P5.out.2.2.1.size)
              clear P5 hr1 hg1 hrow
              have QQ := Lib.hid (PX.fin Q1.out (.int .i64 (kd : Int)) (.string (tx nm)) (.string (tx ts)) (.slice A l c) (.bool em))
              have DD := Lib.hid (PX.ed Q1.out (.int .i64 (kd : Int)) (.string (tx nm)) (.string (tx ts)) (.slice A l c) (.bool em))
              obtain ⟨z0, z1, x0, x1, x2, x3, x4⟩ := PX.rd Q1.out
              obtain ⟨f1, f50, f51, f52, f53, f54⟩ := PX.fz Q1.out
              clear Q1
              go_wp2_with fail
              exact bodyPost_ret (v := .tuple #[.agg #[.int .i64 (kd : Int), .string (tx nm), .string (tx ts), .slice A l c, .bool em], .bool true]) (by obtain ⟨d0, d1, d2, d3, d4⟩ := DD.out; simp [results, Tryz.results15, go_sem, d0, d1, d2, d3, d4]) rfl (by rw [HA.out]; exact ⟨⟨A, l, c, rfl, RR.out⟩, ⟨i, hi, hrest, QQ.out.1⟩, QQ.out.2⟩)
          | false =>
            obtain ⟨e, he1, he2, het, hed, hways⟩ := text_end S k hk
            obtain ⟨x, hx⟩ : ∃ x, entL (bs (S.extract k e)) = x := ⟨_, rfl⟩
            have HEN := Lib.hid hx
            have HA : Hid (tokL (decide (k = 0)) ((bs S).drop k) = x.map fun x => (⟨3, [], x, [], false⟩, (bs S).drop e)) := Lib.hid (by
              rw [tok_6 HD1.out HD2.out HD3.out HD4.out HD5.out]
              unfold textL
              rw [het, hed, hx])
            obtain ⟨fi, hfi⟩ : ∃ fi, findI (bs S) (bs ⟨#[60]⟩) k = fi := ⟨_, rfl⟩
            have HFI := Lib.hid hfi
            have hways2 : (fi < 0 ∧ e = S.size) ∨ (¬ fi < 0 ∧ fi = (e : Int)) := by rw [← hfi]; exact hways
            clear HD1 HD2 HD3 HD4 HD5 het hed hx hfi hways
            have he1I : (k : Int) ≤ (e : Int) := by omega
            have he2I : (e : Int) ≤ (S.size : Int) := by omega
            have hk0I : (0 : Int) ≤ (k : Int) := by omega
            go_upto_region 14 with fail
            go_region_held3 (fun w' => w'.cell? ⟨g, 0, none⟩ = some (.string S) ∧ w'.cell? ⟨g, 1, none⟩ = some (.int .i64 (k : Int))) (first | exact ⟨P5.out.1.c0, P5.out.1.c1⟩ | fail) (first | (go_at_call 21; refine (find_c S ⟨#[60]⟩ k _ (by omega) (by decide) (by decide) (by omega)).mono ?_; rintro e9 w9 ⟨rfl, rfl⟩; rw [HFI.out]))
            rename_i hheld
            clear hheld
            have P6 := Lib.hid P5.out.drew
            obtain ⟨wg, hwg⟩ : ∃ wg, wf.drew = wg := ⟨_, rfl⟩
            rw [hwg] at P6 ⊢
            clear hwg P5
            rcases hways2 with ⟨hneg, rfl⟩ | ⟨hneg, rfl⟩
            · have z0 := P6.out.1.c0
              cases x with
              | none =>
                go_upto_region 17 with fail
                go_region_held3 (fun w' => w'.cell? ⟨g, 0, none⟩ = some (.string S) ∧ w'.cell? ⟨g, 1, none⟩ = some (.int .i64 (k : Int))) (first | exact ⟨P6.out.1.c0, P6.out.1.c1⟩ | (have h := P7.out.1; exact ⟨h.c0, h.c1⟩) | fail) (first | (go_at_call 9; refine (refEntities_c (S.extract k S.size) _ (by rw [extract_size _ _ _ he2]; omega)).mono ?_; intro e9 w9 hp9; rw [HEN.out] at hp9; obtain ⟨he9, hb9⟩ := hp9; subst he9; have P7 := Lib.hid (PX.below P6.out.drew hb9); clear hb9))
                rename_i hheld
                clear hheld P6
                have z1 := P7.out.1.c1
                have f1 := P7.out.1.f1
                have P8 := Lib.hid (P7.out.at S.size)
                go_upto_region 19 with fail
                obtain ⟨wh, hwh⟩ : ∃ wh, w9.setCell ⟨g, 1, none⟩ (.int .i64 (S.size : Int)) = wh := ⟨_, rfl⟩
                rw [hwh] at P8 ⊢
                clear hwh P7 z1 f1
                have QQ := Lib.hid (PX.fin P8.out (.int .i64 3) (.string ⟨#[]⟩) (.string ⟨#[]⟩) (.slice none 0 0) (.bool false))
                have DD := Lib.hid (PX.ed P8.out (.int .i64 3) (.string ⟨#[]⟩) (.string ⟨#[]⟩) (.slice none 0 0) (.bool false))
                obtain ⟨z0, z1, x0, x1, x2, x3, x4⟩ := PX.rd P8.out
                obtain ⟨f1, f50, f51, f52, f53, f54⟩ := PX.fz P8.out
                clear P8
                go_wp2_with fail
                exact bodyPost_ret (v := .tuple #[.agg #[.int .i64 3, .string ⟨#[]⟩, .string ⟨#[]⟩, .slice none 0 0, .bool false], .bool false]) (by obtain ⟨d0, d1, d2, d3, d4⟩ := DD.out; simp [results, Tryz.results15, go_sem, d0, d1, d2, d3, d4]) rfl (rtPost_none HA.out rfl he2 QQ.out.1 QQ.out.2)
              | some v =>
                go_upto_region 17 with fail
                go_region_held3 (fun w' => w'.cell? ⟨g, 0, none⟩ = some (.string S) ∧ w'.cell? ⟨g, 1, none⟩ = some (.int .i64 (k : Int))) (first | exact ⟨P6.out.1.c0, P6.out.1.c1⟩ | (have h := P7.out.1; exact ⟨h.c0, h.c1⟩) | fail) (first | (go_at_call 9; refine (refEntities_c (S.extract k S.size) _ (by rw [extract_size _ _ _ he2]; omega)).mono ?_; intro e9 w9 hp9; rw [HEN.out] at hp9; obtain ⟨he9, hb9⟩ := hp9; subst he9; have P7 := Lib.hid (PX.below P6.out.drew hb9); clear hb9))
                rename_i hheld
                clear hheld P6
                have z1 := P7.out.1.c1
                have f1 := P7.out.1.f1
                have P8 := Lib.hid (P7.out.at S.size)
                go_upto_region 19 with fail
                obtain ⟨wh, hwh⟩ : ∃ wh, w9.setCell ⟨g, 1, none⟩ (.int .i64 (S.size : Int)) = wh := ⟨_, rfl⟩
                rw [hwh] at P8 ⊢
                clear hwh P7 z1 f1
                have QQ := Lib.hid (PX.fin P8.out (.int .i64 3) (.string ⟨#[]⟩) (.string (tx v)) (.slice none 0 0) (.bool false))
                have DD := Lib.hid (PX.ed P8.out (.int .i64 3) (.string ⟨#[]⟩) (.string (tx v)) (.slice none 0 0) (.bool false))
                obtain ⟨z0, z1, x0, x1, x2, x3, x4⟩ := PX.rd P8.out
                obtain ⟨f1, f50, f51, f52, f53, f54⟩ := PX.fz P8.out
                clear P8
                go_wp2_with fail
                exact bodyPost_ret (v := .tuple #[.agg #[.int .i64 3, .string ⟨#[]⟩, .string (tx v), .slice none 0 0, .bool false], .bool true]) (by obtain ⟨d0, d1, d2, d3, d4⟩ := DD.out; simp [results, Tryz.results15, go_sem, d0, d1, d2, d3, d4]) rfl (rtPost_plain HA.out rfl he2 rfl QQ.out.1 QQ.out.2)
            · cases x with
              | none =>
                go_upto_region 17 with fail
                go_region_held3 (fun w' => w'.cell? ⟨g, 0, none⟩ = some (.string S) ∧ w'.cell? ⟨g, 1, none⟩ = some (.int .i64 (k : Int))) (first | exact ⟨P6.out.1.c0, P6.out.1.c1⟩ | (have h := P7.out.1; exact ⟨h.c0, h.c1⟩) | fail) (first | (go_at_call 9; refine (refEntities_c (S.extract k e) _ (by rw [extract_size _ _ _ he2]; omega)).mono ?_; intro e9 w9 hp9; rw [HEN.out] at hp9; obtain ⟨he9, hb9⟩ := hp9; subst he9; have P7 := Lib.hid (PX.below P6.out.drew hb9); clear hb9))
                rename_i hheld
                clear hheld P6
                have z1 := P7.out.1.c1
                have f1 := P7.out.1.f1
                have P8 := Lib.hid (P7.out.at e)
                go_upto_region 19 with fail
                obtain ⟨wh, hwh⟩ : ∃ wh, w9.setCell ⟨g, 1, none⟩ (.int .i64 (e : Int)) = wh := ⟨_, rfl⟩
                rw [hwh] at P8 ⊢
                clear hwh P7 z1 f1
                have QQ := Lib.hid (PX.fin P8.out (.int .i64 3) (.string ⟨#[]⟩) (.string ⟨#[]⟩) (.slice none 0 0) (.bool false))
                have DD := Lib.hid (PX.ed P8.out (.int .i64 3) (.string ⟨#[]⟩) (.string ⟨#[]⟩) (.slice none 0 0) (.bool false))
                obtain ⟨z0, z1, x0, x1, x2, x3, x4⟩ := PX.rd P8.out
                obtain ⟨f1, f50, f51, f52, f53, f54⟩ := PX.fz P8.out
                clear P8
                go_wp2_with fail
                exact bodyPost_ret (v := .tuple #[.agg #[.int .i64 3, .string ⟨#[]⟩, .string ⟨#[]⟩, .slice none 0 0, .bool false], .bool false]) (by obtain ⟨d0, d1, d2, d3, d4⟩ := DD.out; simp [results, Tryz.results15, go_sem, d0, d1, d2, d3, d4]) rfl (rtPost_none HA.out rfl he2 QQ.out.1 QQ.out.2)
              | some v =>
                go_upto_region 17 with fail
                go_region_held3 (fun w' => w'.cell? ⟨g, 0, none⟩ = some (.string S) ∧ w'.cell? ⟨g, 1, none⟩ = some (.int .i64 (k : Int))) (first | exact ⟨P6.out.1.c0, P6.out.1.c1⟩ | (have h := P7.out.1; exact ⟨h.c0, h.c1⟩) | fail) (first | (go_at_call 9; refine (refEntities_c (S.extract k e) _ (by rw [extract_size _ _ _ he2]; omega)).mono ?_; intro e9 w9 hp9; rw [HEN.out] at hp9; obtain ⟨he9, hb9⟩ := hp9; subst he9; have P7 := Lib.hid (PX.below P6.out.drew hb9); clear hb9))
                rename_i hheld
                clear hheld P6
                have z1 := P7.out.1.c1
                have f1 := P7.out.1.f1
                have P8 := Lib.hid (P7.out.at e)
                go_upto_region 19 with fail
                obtain ⟨wh, hwh⟩ : ∃ wh, w9.setCell ⟨g, 1, none⟩ (.int .i64 (e : Int)) = wh := ⟨_, rfl⟩
                rw [hwh] at P8 ⊢
                clear hwh P7 z1 f1
                have QQ := Lib.hid (PX.fin P8.out (.int .i64 3) (.string ⟨#[]⟩) (.string (tx v)) (.slice none 0 0) (.bool false))
                have DD := Lib.hid (PX.ed P8.out (.int .i64 3) (.string ⟨#[]⟩) (.string (tx v)) (.slice none 0 0) (.bool false))
                obtain ⟨z0, z1, x0, x1, x2, x3, x4⟩ := PX.rd P8.out
                obtain ⟨f1, f50, f51, f52, f53, f54⟩ := PX.fz P8.out
                clear P8
                go_wp2_with fail
                exact bodyPost_ret (v := .tuple #[.agg #[.int .i64 3, .string ⟨#[]⟩, .string (tx v), .slice none 0 0, .bool false], .bool true]) (by obtain ⟨d0, d1, d2, d3, d4⟩ := DD.out; simp [results, Tryz.results15, go_sem, d0, d1, d2, d3, d4]) rfl (rtPost_plain HA.out rfl he2 rfl QQ.out.1 QQ.out.2)
end Go.Proofs.YtlfpmfdlfhldbaaGreatDoor
