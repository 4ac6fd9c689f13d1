/-
  The contract of Split (layer 2).
-/
import Derived.Test.YtkccockdnjjanaaGreatDoorTkToken
import Derived.Test.YtkccockdnjjanaaGreatDoorTkSplitM
namespace Go.Proofs.YtkccockdnjjanaaGreatDoor
open Nwl
open Go.RowKit Go.Maps
set_option linter.unusedVariables false

set_option maxHeartbeats 400000 in
theorem allAllowed_c (s : ByteArray) (w : World) (hs : s.size ≤ maxLen) :
    Calls Tryz.prog 44 #[.string s] w fun e w' => e = .returned (.bool (allL (bs s))) ∧ w = w' := by
  unfold maxLen at hs
  go_enter Tryz.func44, Tryz.ntmps44
  go_wp2
  go_loop [6] (fun i => ∃ k : Nat, k ≤ s.size ∧ i = .int .i64 k ∧ AllowTo s k) (fun i => s.size - (intOf i).toNat)
  case atStart => exact ⟨0, by omega, rfl, allowTo_zero _⟩
  case round =>
    obtain ⟨k, hk, rfl, hall⟩ := hrel
    by_cases hlt : k < s.size
    · cases hc : allowedI s[k].toNat with
      | true =>
        have hup := allowTo_succ hall hlt hc
        go_wp2_with (go_at_call 65; refine (Allowed_c _ _).mono ?_; rintro e w' ⟨rfl, rfl⟩)
        go_round
        case rel => exact ⟨k + 1, by omega, by go_num, hup⟩
        case measure => simp [intOf]; omega
      | false =>
        have HN := Lib.hid (allowTo_no hlt hc)
        go_wp2_with (go_at_call 65; refine (Allowed_c _ _).mono ?_; rintro e w' ⟨rfl, rfl⟩)
        go_ret
        exact ⟨ret_bool HN.out.symm, rfl⟩
    · have HN := Lib.hid (allowTo_end hall (by omega))
      go_wp2
      go_ret
      exact ⟨ret_bool HN.out.symm, rfl⟩

theorem Wk.blk {g : Nat} {r : List UInt8} {w : World} (h : Wk g r w) : Blk w g 78 #[.string (tx r)] := h
/-- a step of the walk leaves the tokens -/
theorem ToksAt.walk {B g : Nat} {r : List UInt8} {w w' : World} {v : Value} {ts : List Tok} (h : ToksAt B w v ts) (hk : Wk g r w) (hg : w.grownBy w' (some g)) : ToksAt B w' v ts := by
  obtain ⟨cs, h1, h2⟩ := h
  exact ⟨cs, h1.kept hg (.inr (own_ne h1 hk.blk (by decide))), h2.kept hg fun v n xs h => .inr (own_ne h hk.blk (by decide))⟩
set_option maxRecDepth 100000 in
set_option maxHeartbeats 400000 in
theorem split_big (s : ByteArray) (w : World) (hs : s.size ≤ maxLen) (hb : 20000 < s.size) :
    Calls Tryz.prog 24 #[.string s] w (SplitPost (bs s) w) := by
  unfold maxLen at hs
  have h1 := Lib.hid (splitE_big (l := bs s) (by rw [bs_length]; exact hb))
  have h2 := Lib.hid (splitT_big (l := bs s) (by rw [bs_length]; exact hb))
  go_enter Tryz.func24, Tryz.ntmps24
  go_wp2_with fail
  go_step3
  go_wp2_with fail
  rw [Exit.noGoto_ret]
  go_ret2
  exact splitPost_err h1.out h2.out rfl (Below.refl _ _)

set_option maxRecDepth 100000 in
set_option maxHeartbeats 400000 in
theorem split_byte (s : ByteArray) (w : World) (hs : s.size ≤ 20000) (ha : allL (bs s) = false) :
    Calls Tryz.prog 24 #[.string s] w (SplitPost (bs s) w) := by
  have hns : ¬ 20000 < (bs s).length := by rw [bs_length]; omega
  have h1 := Lib.hid (splitE_byte hns ha)
  have h2 := Lib.hid (splitT_byte hns ha)
  have hm : s.size ≤ maxLen := by unfold maxLen; omega
  clear hns
  go_enter Tryz.func24, Tryz.ntmps24
  go_wp2_with fail
  go_step3
  go_wp2_with (go_at_call 44; refine (allAllowed_c _ _ hm).mono ?_; rintro e w' ⟨rfl, rfl⟩)
  rw [Exit.noGoto_ret]
  go_ret2
  exact splitPost_err h1.out h2.out rfl (Below.refl _ _)

set_option maxRecDepth 100000 in
set_option maxHeartbeats 4000000 in
theorem split_walk (s : ByteArray) (w : World) (hs : s.size ≤ 20000) (ha : allL (bs s) = true) (hg : Glob w) :
    Calls Tryz.prog 24 #[.string s] w (SplitPost (bs s) w) := by
  have hns : ¬ 20000 < (bs s).length := by rw [bs_length]; omega
  have HNS := Lib.hid hns
  have HAL := Lib.hid ha
  have hm : s.size ≤ maxLen := by unfold maxLen; omega
  have HG := Lib.hid hg
  obtain ⟨i0, hi, hz0, hz1, hz2⟩ := info_parts info_tok
  clear hns hg
  go_enter Tryz.func24, Tryz.ntmps24
  go_wp2_with fail
  refine wp_scope_again 0 (fun a' w' => ∃ (rest : List UInt8) (ts : List Tok) (A : Option Addr) (n c : Nat) (u6 u7 u8 u9 u10 u11 u12 u13 u14 u15 u16 u17 u18 u19 u20 u21 u22 u23 u24 u25 u26 u27 u28 u29 u30 u31 u32 : Value), a' = { tmps := #[.string s, undef, .slice none 0 0, .int .i64 0, .slice A n c, .pointer (some ⟨w.heap.size, 0, none⟩), u6, u7, u8, u9, u10, u11, u12, u13, u14, u15, u16, u17, u18, u19, u20, u21, u22, u23, u24, u25, u26, u27, u28, u29, u30, u31, u32], defers := [] } ∧ Hid (n = ts.length ∧ Wk w.heap.size rest w' ∧ ToksAt w.heap.size w' (.slice A n c) ts ∧ Below w.heap.size w w' ∧ rest.length + ts.length ≤ s.size ∧ splitL (bs s) = (splitM (n == 0) rest).map (ts ++ ·))) (fun _ w' => wkLen w.heap.size w') rfl ?_ ?_
  · rintro a' w' ⟨rest, ts, A, n, c, u6, u7, u8, u9, u10, u11, u12, u13, u14, u15, u16, u17, u18, u19, u20, u21, u22, u23, u24, u25, u26, u27, u28, u29, u30, u31, u32, rfl, hh⟩
    obtain ⟨hn, hk, htk, hbel, hlen, hsp⟩ := hh.out
    clear hh
    have HN := Lib.hid hn
    have HK := Lib.hid hk
    have HT := Lib.hid htk
    have HW := Lib.hid (wkLen_eq hk)
    have hws := hbel.size
    have hglt := hk.lt
    have hc := hk.cell
    have hn20 : n ≤ 20000 := by omega
    have hrl : rest.length ≤ 100000 := by omega
    clear hn hk htk
    by_cases hre : rest = []
    · subst hre
      have hsl : splitL (bs s) = some ts := by rw [hsp, splitM_nil]; simp
      have H1 := Lib.hid (splitE_some HNS.out HAL.out hsl)
      have H2 := Lib.hid (splitT_some HNS.out HAL.out hsl)
      have he : (tx []).toList = [] := toList_nil_of _ (by rw [tx_size]; rfl)
      clear hsl hsp
      go_wp2_with fail
      simp only [Exit.jump]
      go_ret2
      exact splitPost_ok H1.out H2.out HN.out rfl HT.out hbel
    · have hrp : 0 < rest.length := by
        cases rest with
        | nil => exact absurd rfl hre
        | cons => simp
      have hne : ¬ (tx rest).toList = [] := toList_ne_of _ (by rw [tx_size]; exact hrp)
      have hne2 : (tx rest).toList.isEmpty = false := by simpa using hne
      rw [splitM_step hre] at hsp
      have hzero : ∀ b : Bool, ((n : Int) == 0) = b → (n == 0) = b := by
        intro b hb
        rw [← hb, Bool.eq_iff_iff, beq_iff_eq, beq_iff_eq]
        omega
      clear hre
      obtain ⟨f, hf⟩ : ∃ f : Bool, ((n : Int) == 0) = f := ⟨_, rfl⟩
      rw [hzero f hf] at hsp
      clear hzero
      cases ht : tokL f rest with
      | none =>
        rw [ht] at hsp
        have H1 := Lib.hid (splitE_none HNS.out HAL.out hsp)
        have H2 := Lib.hid (splitT_none HNS.out HAL.out hsp)
        have HTK := Lib.hid ht
        clear hsp ht
        go_wp2_with fail
        refine (token_c w.heap.size _ _ _ HK.out (HG.out.below hbel) hrl).mono ?_
        intro e w2 hp2
        unfold TokPost at hp2
        rw [HTK.out] at hp2
        obtain ⟨rfl, ⟨r2, hk2⟩, hg2⟩ := hp2
        have hbel2 := hbel.grown hg2 hws (fun k hk => by simp at hk; omega)
        clear hk2 hg2
        go_wp2_with fail
        simp only [Exit.jump]
        go_ret2
        exact splitPost_err H1.out H2.out rfl (hbel2.alloc hbel2.size _)
      | some x =>
        obtain ⟨t, rest2⟩ := x
        rw [ht] at hsp
        have hlt2 := tokL_lt ht hrp
        have HSP : Hid (splitL (bs s) = (splitM false rest2).map ((ts ++ [t]) ++ ·)) := Lib.hid (by
          rw [hsp]
          simp only [Option.map_map]
          congr 1
          funext q
          simp)
        have HTK := Lib.hid ht
        clear hsp ht
        go_wp2_with fail
        refine (token_c w.heap.size _ _ _ HK.out (HG.out.below hbel) hrl).mono ?_
        intro e w2 hp2
        unfold TokPost at hp2
        rw [HTK.out] at hp2
        obtain ⟨A2, l2, c2, rfl, hrow2, hk2, hg2⟩ := hp2
        have HK2 := Lib.hid hk2
        have HT2 := Lib.hid (HT.out.walk HK.out hg2)
        have HR2 := Lib.hid (row_mono hrow2 hws)
        have hbel2 := hbel.grown hg2 hws (fun k hk => by simp at hk; omega)
        have hw2 := hbel2.size
        clear hk2 hg2 hrow2
        obtain ⟨cs, hcs, htc⟩ := ((HT2.out.alloc (.cells #[.int .i64 (t.kind : Int), .string (tx t.name), .string (tx t.text), .slice A2 l2 c2, .bool t.empty] 53)).alloc (.cells #[.int .i64 (t.kind : Int), .string (tx t.name), .string (tx t.text), .slice A2 l2 c2, .bool t.empty] 53))
        rw [← HN.out] at hcs
        have HCS := Lib.hid hcs
        have HTC := Lib.hid htc
        have hnews := cells_five_new (w2.alloc (.cells #[.int .i64 (t.kind : Int), .string (tx t.name), .string (tx t.text), .slice A2 l2 c2, .bool t.empty] 53)) (.int .i64 (t.kind : Int)) (.string (tx t.name)) (.string (tx t.text)) (.slice A2 l2 c2) (.bool t.empty) 53
        have hszz : (w2.alloc (.cells #[.int .i64 (t.kind : Int), .string (tx t.name), .string (tx t.text), .slice A2 l2 c2, .bool t.empty] 53)).heap.size = w2.heap.size + 1 := by simp
        rw [hszz] at hnews
        have HNEWS := Lib.hid hnews
        clear hcs htc hnews hszz
        go_wp2_with (at_builtin; refine wpList_append_own_at _ rfl _ _ 22 rfl w.heap.size 53 i0 _ 5 72 Tryz.underlying22 hi hz0 hz1 hz2 rfl (by decide) _ n cs rfl HCS.out ⟨w2.heap.size + 1, 0, none⟩ 1 1 [.int .i64 (t.kind : Int), .string (tx t.name), .string (tx t.text), .slice A2 l2 c2, .bool t.empty] rfl rfl HNEWS.out (five_oneCell _ _ _ _ _ _ _) (by unfold maxLen; omega) (by omega) (by simp; omega) ?_; intro v' w5 hown5 hgrow5 _ _)
        obtain ⟨A', c', rfl⟩ := own_form hown5
        have hbel5 := ((hbel2.alloc hw2 _).alloc (by simp; omega) _).grown hgrow5 (by simp; omega) (fun k hk => (HCS.out.lt k hk).1)
        have hk5 := ((HK2.out.alloc _).alloc _).grown hgrow5 (fun e => own_ne HCS.out ((HK2.out.alloc _).alloc _).blk (by decide) e.symm)
        have hr5 := ((HR2.out.alloc _).alloc _).kept hgrow5 (own_ne_own ((HR2.out.alloc _).alloc _) HCS.out (by decide))
        have ht5 := (HTC.out.kept hgrow5 (fun v n xs h => own_ne_own h HCS.out (by decide))).snoc hr5
        have hl1 : (ts ++ [t]).length = n + 1 := by rw [List.length_append, HN.out]; rfl
        have hz1' : (n + 1 == 0) = false := by simp
        go_step3
        refine ⟨rfl, ⟨rest2, ts ++ [t], A', n + 1, c', _, _, _, _, _, _, _, _, _, _, _, _, _, _, _, _, _, _, _, _, _, _, _, _, _, _, _, rfl, hl1.symm, hk5, ⟨_, by rw [hl1]; exact hown5, ht5⟩, hbel5, by rw [hl1]; have := HN.out; omega, by rw [hz1']; exact HSP.out⟩, ?_⟩
        rw [wkLen_eq hk5, HW.out]
        exact hlt2
  · intro hpass
    go_wp2_with (go_at_call 44; refine (allAllowed_c _ _ hm).mono ?_; rintro e w' ⟨rfl, rfl⟩)
    go_step3
    rename_i hK
    refine hK _ _ (hpass.out _ _ ⟨bs s, [], none, 0, 0, _, _, _, _, _, _, _, _, _, _, _, _, _, _, _, _, _, _, _, _, _, _, _, _, _, _, _, rfl, rfl, ?_, ToksAt.nil _ _, (Below.refl _ _).alloc (Nat.le_refl _) _, by simp [bs_length], by simp [splitL_M]⟩)
    exact Blk.new w _ _

theorem Split_c (s : ByteArray) (w : World) (hs : s.size ≤ maxLen) (hg : Glob w) :
    Calls Tryz.prog 24 #[.string s] w (SplitPost (bs s) w) := by
  by_cases hb : 20000 < s.size
  · exact split_big s w hs hb
  · cases ha : allL (bs s) with
    | true => exact split_walk s w (by omega) ha hg
    | false => exact split_byte s w (by omega) ha

end Go.Proofs.YtkccockdnjjanaaGreatDoor
