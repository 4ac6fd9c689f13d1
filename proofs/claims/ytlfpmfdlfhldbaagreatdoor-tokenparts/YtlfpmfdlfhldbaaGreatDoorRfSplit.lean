/-
  The document's own answers (layer 2): all tokens of a text.
-/
import Derived.Test.YtlfpmfdlfhldbaaGreatDoorRfNext
import Derived.Test.YtlfpmfdlfhldbaaGreatDoorTkSplitM
namespace Go.Proofs.YtlfpmfdlfhldbaaGreatDoor
open Nwl
open Go.RowKit Go.Maps
set_option linter.unusedVariables false
set_option linter.unusedSimpArgs false

/-- a step of the document's walk leaves the tokens -/
theorem ToksAt.rwalk {B g k : Nat} {S : ByteArray} {w w' : World} {v : Value} {ts : List Tok} (h : ToksAt B w v ts) (hk : RW g S k w) (hg : w.grownBy w' (some g)) : ToksAt B w' v ts := by
  obtain ⟨cs, h1, h2⟩ := h
  exact ⟨cs, h1.kept hg (.inr (own_ne h1 hk (by decide))), h2.kept hg fun v n xs h => .inr (own_ne h hk (by decide))⟩

set_option maxRecDepth 100000 in
set_option maxHeartbeats 8000000 in
theorem rSplit_c (s : ByteArray) (w : World) (hs : s.size ≤ maxLen) :
    Calls Tryz.prog 7 #[.string s] w (SplitPost (bs s) w) := by
  by_cases hb : 20000 < s.size
  · have h1 := Lib.hid (splitE_big (l := bs s) (by rw [bs_length]; exact hb))
    have h2 := Lib.hid (splitT_big (l := bs s) (by rw [bs_length]; exact hb))
    have hbI : (20000 : Int) < (s.size : Int) := by omega
    go_enter Tryz.func7, Tryz.ntmps7
    go_wp2_with fail
    go_ret2
    exact splitPost_err h1.out h2.out rfl (Below.refl _ _)
  · have hns : ¬ 20000 < (bs s).length := by rw [bs_length]; omega
    have hbI : ¬ (20000 : Int) < (s.size : Int) := by omega
    cases ha : allL (bs s) with
    | false =>
      have h1 := Lib.hid (splitE_byte hns ha)
      have h2 := Lib.hid (splitT_byte hns ha)
      have HAL := Lib.hid ha
      clear hns ha
      go_enter Tryz.func7, Tryz.ntmps7
      go_wp2_with fail
      refine (refall_c _ _ hs).mono ?_
      rintro e w' ⟨rfl, rfl⟩
      rw [HAL.out]
      go_wp2_with fail
      go_ret2
      exact splitPost_err h1.out h2.out rfl (Below.refl _ _)
    | true =>
      have HNS := Lib.hid hns
      have HAL := Lib.hid ha
      have hs1 : s.size ≤ 100000 := by omega
      obtain ⟨i0, hi, hz0, hz1, hz2⟩ := info_parts info_tok
      have B0 := Lib.hid (Blk.new w 42 #[.string s, .int .i64 0])
      have G0 := Lib.hid ((Below.refl w.heap.size w).alloc (Nat.le_refl _) (.cells #[.string s, .int .i64 0] 42))
      clear hns ha hbI
      go_enter Tryz.func7, Tryz.ntmps7
      have hbI : ¬ (20000 : Int) < (s.size : Int) := by omega
      go_wp2_with fail
      refine (refall_c _ _ hs).mono ?_
      rintro e w' ⟨rfl, rfl⟩
      rw [HAL.out]
      clear hbI
      go_wp2_with fail
      obtain ⟨g, hg⟩ : ∃ g, w.heap.size = g := ⟨_, rfl⟩
      go_loopw [5] (fun lv wr => ∃ (k n c : Nat) (ts : List Tok) (A : Option Addr), k ≤ s.size ∧ n = ts.length ∧ n ≤ k ∧ lv = .slice A n c ∧ Hid (RW w.heap.size s k wr ∧ ToksAt w.heap.size wr (.slice A n c) ts ∧ Below w.heap.size w wr ∧ splitL (bs s) = (splitM (decide (k = 0)) ((bs s).drop k)).map (ts ++ ·))) (fun _ wr => s.size - rwAt w.heap.size wr)
      case atStart => exact ⟨0, 0, 0, [], none, by omega, rfl, by omega, rfl, Lib.hid ⟨B0.out, ToksAt.nil _ _, G0.out, by simp [splitL_M]⟩⟩
      case round =>
        clear B0 G0 hg g
        obtain ⟨k, n, c, ts, A, hk, hn, hnk, rfl, hh⟩ := hrel
        obtain ⟨hrw, htk, hbel, hsp⟩ := hh.out
        have HN := Lib.hid hn
        have HRW := Lib.hid hrw
        have HAT : Hid (rwAt w.heap.size wr = k) := Lib.hid hrw.at
        have HT := Lib.hid htk
        have hws := hbel.size
        have hn20 : n ≤ 20000 := by omega
        have c1 := hrw.c1
        clear hh hn hrw htk
        by_cases hlt : k < s.size
        · have hltI : (k : Int) < (s.size : Int) := by omega
          have hre : (bs s).drop k ≠ [] := by
            intro e
            have := congrArg List.length e
            rw [List.length_drop, bs_length] at this
            simp at this
            omega
          rw [splitM_step hre] at hsp
          cases ht : tokL (decide (k = 0)) ((bs s).drop k) with
          | none =>
            rw [ht] at hsp
            have H1 := Lib.hid (splitE_none HNS.out HAL.out hsp)
            have H2 := Lib.hid (splitT_none HNS.out HAL.out hsp)
            have HTK := Lib.hid ht
            clear hsp ht hre
            go_wp2_with fail
            refine (rnext_c w.heap.size s k _ HRW.out hk hs1).mono ?_
            intro e w2 hp2
            rw [HTK.out] at hp2
            obtain ⟨⟨kk, n1, n2, A2, l2, c2, em, rfl⟩, ⟨i2, hi2, hk2⟩, hg2⟩ := hp2
            have HB2 := Lib.hid (hbel.grown hg2 hws (fun k hk => by simp at hk; omega))
            clear hk2 hg2 c1
            go_wp2_with fail
            go_ret2
            exact splitPost_err H1.out H2.out rfl (HB2.out.alloc HB2.out.size _)
          | some x =>
            obtain ⟨t, rest2⟩ := x
            rw [ht] at hsp
            have hlt2 := tokL_lt ht (by rw [List.length_drop, bs_length]; omega)
            have HSP : Hid (splitL (bs s) = (splitM false rest2).map ((ts ++ [t]) ++ ·)) := Lib.hid (by
              rw [hsp]
              simp only [Option.map_map]
              congr 1
              funext q
              simp)
            have HTK := Lib.hid ht
            clear hsp ht hre
            go_wp2_with fail
            refine (rnext_c w.heap.size s k _ HRW.out hk hs1).mono ?_
            intro e w2 hp2
            rw [HTK.out] at hp2
            obtain ⟨⟨A2, l2, c2, rfl, hrow2⟩, ⟨i2, hi2, hrest2, hk2⟩, hg2⟩ := hp2
            have hki2 : k < i2 := by
              rw [hrest2, List.length_drop, List.length_drop, bs_length] at hlt2
              omega
            have HK2 := Lib.hid hk2
            have HT2 := Lib.hid (HT.out.rwalk HRW.out hg2)
            have HR2 := Lib.hid (hrow2.mono hws)
            have hbel2 := hbel.grown hg2 hws (fun k hk => by simp at hk; omega)
            have hw2 := hbel2.size
            have HRE := Lib.hid hrest2
            clear hk2 hg2 hrow2 hrest2 c1 hlt2
            obtain ⟨cs, hcs, htc⟩ := ((HT2.out.alloc (.cells #[.int .i64 (t.kind : Int), .string (tx t.name), .string (tx t.text), .slice A2 l2 c2, .bool t.empty] 32)).alloc (.cells #[.int .i64 (t.kind : Int), .string (tx t.name), .string (tx t.text), .slice A2 l2 c2, .bool t.empty] 32))
            rw [← HN.out] at hcs
            have HCS := Lib.hid hcs
            have HTC := Lib.hid htc
            have hnews := cells_five_new (w2.alloc (.cells #[.int .i64 (t.kind : Int), .string (tx t.name), .string (tx t.text), .slice A2 l2 c2, .bool t.empty] 32)) (.int .i64 (t.kind : Int)) (.string (tx t.name)) (.string (tx t.text)) (.slice A2 l2 c2) (.bool t.empty) 32
            have hszz : (w2.alloc (.cells #[.int .i64 (t.kind : Int), .string (tx t.name), .string (tx t.text), .slice A2 l2 c2, .bool t.empty] 32)).heap.size = w2.heap.size + 1 := by simp
            rw [hszz] at hnews
            have HNEWS := Lib.hid hnews
            clear hcs htc hnews hszz
            go_wp2_with (at_builtin; refine wpList_append_own_at _ rfl _ _ 23 rfl w.heap.size 32 i0 _ 5 72 Tryz.underlying23 hi hz0 hz1 hz2 rfl (by decide) _ n cs rfl HCS.out ⟨w2.heap.size + 1, 0, none⟩ 1 1 [.int .i64 (t.kind : Int), .string (tx t.name), .string (tx t.text), .slice A2 l2 c2, .bool t.empty] rfl rfl HNEWS.out (five_oneCell _ _ _ _ _ _ _) (by unfold maxLen; omega) (by omega) (by simp; omega) ?_; intro v' w5 hown5 hgrow5 _ _)
            obtain ⟨A', c', rfl⟩ := own_form hown5
            have hbel5 := ((hbel2.alloc hw2 (.cells #[.int .i64 (t.kind : Int), .string (tx t.name), .string (tx t.text), .slice A2 l2 c2, .bool t.empty] 32)).alloc (by simp; omega) (.cells #[.int .i64 (t.kind : Int), .string (tx t.name), .string (tx t.text), .slice A2 l2 c2, .bool t.empty] 32)).grown hgrow5 (by simp; omega) (fun k hk => (HCS.out.lt k hk).1)
            have hk1 : RW w.heap.size s i2 ((w2.alloc (.cells #[.int .i64 (t.kind : Int), .string (tx t.name), .string (tx t.text), .slice A2 l2 c2, .bool t.empty] 32)).alloc (.cells #[.int .i64 (t.kind : Int), .string (tx t.name), .string (tx t.text), .slice A2 l2 c2, .bool t.empty] 32)) := Blk.alloc (Blk.alloc HK2.out _) _
            have hk5 : RW w.heap.size s i2 w5 := Blk.grown hk1 hgrow5 (fun e => own_ne HCS.out hk1 (by decide) e.symm)
            have hr5 := ((HR2.out.alloc (.cells #[.int .i64 (t.kind : Int), .string (tx t.name), .string (tx t.text), .slice A2 l2 c2, .bool t.empty] 32)).alloc (.cells #[.int .i64 (t.kind : Int), .string (tx t.name), .string (tx t.text), .slice A2 l2 c2, .bool t.empty] 32)).kept hgrow5 (own_ne_own ((HR2.out.alloc _).alloc _) HCS.out (by decide))
            have ht5 := (HTC.out.kept hgrow5 (fun v n xs h => own_ne_own h HCS.out (by decide))).snoc hr5
            have hl1 : (ts ++ [t]).length = n + 1 := by rw [List.length_append, HN.out]; rfl
            have hd0 : decide (i2 = 0) = false := decide_eq_false (by omega)
            have HFIN : Hid (RW w.heap.size s i2 w5 ∧ ToksAt w.heap.size w5 (.slice A' (n + 1) c') (ts ++ [t]) ∧ Below w.heap.size w w5 ∧ splitL (bs s) = (splitM (decide (i2 = 0)) ((bs s).drop i2)).map ((ts ++ [t]) ++ ·)) := Lib.hid ⟨hk5, ⟨_, by rw [hl1]; exact hown5, ht5⟩, hbel5, by rw [hd0, ← HRE.out]; exact HSP.out⟩
            clear hown5 hgrow5 hbel5 hk1 hk5 hr5 ht5 HNEWS HCS HTC hbel2
            go_wp2_with fail
            go_roundw
            case rel => exact ⟨i2, n + 1, c', ts ++ [t], A', hi2, hl1.symm, by omega, rfl, HFIN⟩
            case measure => rw [HFIN.out.1.at, HAT.out]; omega
        · obtain rfl : k = s.size := by omega
          have hltI : ¬ (s.size : Int) < (s.size : Int) := by omega
          have hsl : splitL (bs s) = some ts := by
            rw [hsp, List.drop_eq_nil_of_le (by rw [bs_length]; exact Nat.le_refl _), splitM_nil]; simp
          have H1 := Lib.hid (splitE_some HNS.out HAL.out hsl)
          have H2 := Lib.hid (splitT_some HNS.out HAL.out hsl)
          clear hsl hsp
          go_wp2_with fail
          go_ret2
          exact splitPost_ok H1.out H2.out HN.out rfl HT.out hbel
end Go.Proofs.YtlfpmfdlfhldbaaGreatDoor
