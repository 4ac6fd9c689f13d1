/-
  The contract of Split (layer 2).
-/
import Derived.Test.YtbojnmiaheohaaaDoorTkToken
namespace Nwl
def allL (l : List UInt8) : Bool := l.all fun c => allowedI c.toNat
/-- the error of a text, and its tokens -/
def splitE (l : List UInt8) : Int := if 20000 < l.length then 3 else if allL l then (if (splitL l).isSome then 0 else 5) else 4
def splitT (l : List UInt8) : List Tok := if 20000 < l.length then [] else if allL l then (splitL l).getD [] else []
theorem splitE_big {l : List UInt8} (h : 20000 < l.length) : splitE l = 3 := by unfold splitE; rw [if_pos h]
theorem splitT_big {l : List UInt8} (h : 20000 < l.length) : splitT l = [] := by unfold splitT; rw [if_pos h]
theorem splitE_byte {l : List UInt8} (h : ¬ 20000 < l.length) (ha : allL l = false) : splitE l = 4 := by unfold splitE; rw [if_neg h, if_neg (by rw [ha]; decide)]
theorem splitT_byte {l : List UInt8} (h : ¬ 20000 < l.length) (ha : allL l = false) : splitT l = [] := by unfold splitT; rw [if_neg h, if_neg (by rw [ha]; decide)]
theorem splitE_some {l : List UInt8} {ts : List Tok} (h : ¬ 20000 < l.length) (ha : allL l = true) (hs : splitL l = some ts) : splitE l = 0 := by unfold splitE; rw [if_neg h, if_pos ha, hs]; rfl
theorem splitT_some {l : List UInt8} {ts : List Tok} (h : ¬ 20000 < l.length) (ha : allL l = true) (hs : splitL l = some ts) : splitT l = ts := by unfold splitT; rw [if_neg h, if_pos ha, hs]; rfl
theorem splitE_none {l : List UInt8} (h : ¬ 20000 < l.length) (ha : allL l = true) (hs : splitL l = none) : splitE l = 5 := by unfold splitE; rw [if_neg h, if_pos ha, hs]; rfl
theorem splitT_none {l : List UInt8} (h : ¬ 20000 < l.length) (ha : allL l = true) (hs : splitL l = none) : splitT l = [] := by unfold splitT; rw [if_neg h, if_pos ha, hs]; rfl
theorem splitL_M (l : List UInt8) : splitL l = splitM true l := rfl
/-- from the beginning up to k all bytes are Allowed -/
theorem allL_of {l : List UInt8} {k : Nat} (h : AllTo (fun c => allowedI c.toNat) l k) (hk : l.length ≤ k) : allL l = true := by
  unfold allL
  rw [List.all_eq_true]
  intro c hc
  obtain ⟨j, hj, rfl⟩ := List.mem_iff_getElem.1 hc
  exact h j hj (by omega)
theorem allL_not {l : List UInt8} {k : Nat} (hk : k < l.length) (h : ∀ hk : k < l.length, allowedI (l[k]).toNat = false) : allL l = false := by
  cases e : allL l with
  | false => rfl
  | true =>
    unfold allL at e
    rw [List.all_eq_true] at e
    have := e _ (List.getElem_mem hk)
    rw [h hk] at this
    cases this
def AllowTo (s : ByteArray) (k : Nat) : Prop := AllTo (fun c => allowedI c.toNat) (bs s) k
theorem allowTo_zero (s : ByteArray) : AllowTo s 0 := allTo_zero _ _
theorem allowTo_succ {s : ByteArray} {k : Nat} (h : AllowTo s k) (hk : k < s.size) (hc : allowedI s[k].toNat = true) : AllowTo s (k + 1) := allTo_succ h (by rw [bs_length]; exact hk) hc
theorem allowTo_no {s : ByteArray} {k : Nat} (hk : k < s.size) (hc : allowedI s[k].toNat = false) : allL (bs s) = false := allL_not (by rw [bs_length]; exact hk) (fun _ => hc)
theorem allowTo_end {s : ByteArray} {k : Nat} (h : AllowTo s k) (hk : s.size ≤ k) : allL (bs s) = true := allL_of h (by rw [bs_length]; exact hk)
theorem bs_at (s : ByteArray) (k : Nat) (h : k < s.size) : ∃ c : UInt8, s[k] = c ∧ ∀ (p : UInt8 → Bool) (b : Bool), p c = b → ∀ h : k < (bs s).length, p (bs s)[k] = b :=
  ⟨s[k], rfl, fun _ _ e _ => e⟩
end Nwl
namespace Go.Proofs.YtbojnmiaheohaaaDoor
open Nwl
open Go.RowKit Go.Maps
set_option linter.unusedVariables false

set_option maxHeartbeats 400000 in
theorem allAllowed_c (s : ByteArray) (w : World) (hs : s.size ≤ maxLen) :
    Calls Tryd.prog 17 #[.string s] w fun e w' => e = .returned (.bool (allL (bs s))) ∧ w = w' := by
  unfold maxLen at hs
  go_enter Tryd.func17, Tryd.ntmps17
  go_wp2
  go_loop [6] (fun i => ∃ k : Nat, k ≤ s.size ∧ i = .int .i64 k ∧ AllowTo s k) (fun i => s.size - (intOf i).toNat)
  case atStart => exact ⟨0, by omega, rfl, allowTo_zero _⟩
  case round =>
    obtain ⟨k, hk, rfl, hall⟩ := hrel
    by_cases hlt : k < s.size
    · cases hc : allowedI s[k].toNat with
      | true =>
        have hup := allowTo_succ hall hlt hc
        go_wp2_with (go_at_call 24; refine (Allowed_c _ _).mono ?_; rintro e w' ⟨rfl, rfl⟩)
        go_round
        case rel => exact ⟨k + 1, by omega, by go_num, hup⟩
        case measure => simp [intOf]; omega
      | false =>
        have HN := Lib.hid (allowTo_no hlt hc)
        go_wp2_with (go_at_call 24; refine (Allowed_c _ _).mono ?_; rintro e w' ⟨rfl, rfl⟩)
        go_ret
        exact ⟨ret_bool HN.out.symm, rfl⟩
    · have HN := Lib.hid (allowTo_end hall (by omega))
      go_wp2
      go_ret
      exact ⟨ret_bool HN.out.symm, rfl⟩

/-- tokens as cells: each token's attributes lie in a row from B on -/
def TokCells (w : World) (B : Nat) : List Tok → List Value → Prop
  | [], cs => cs = []
  | t :: ts, cs => ∃ (A : Option Addr) (l c : Nat) (tl : List Value), cs = [.int .i64 (t.kind : Int), .string (tx t.name), .string (tx t.text), .slice A l c, .bool t.empty] ++ tl ∧ w.ownsRow B 82 2 (.slice A l c) t.attrs.length (attrCells t.attrs) ∧ TokCells w B ts tl
theorem TokCells.snoc {w : World} {B : Nat} {t : Tok} {A : Option Addr} {l c : Nat} (h : w.ownsRow B 82 2 (.slice A l c) t.attrs.length (attrCells t.attrs)) : ∀ {ts : List Tok} {cs : List Value}, TokCells w B ts cs → TokCells w B (ts ++ [t]) (cs ++ [.int .i64 (t.kind : Int), .string (tx t.name), .string (tx t.text), .slice A l c, .bool t.empty])
  | [], cs, hc => by
    unfold TokCells at hc
    subst hc
    exact ⟨A, l, c, [], by simp, h, rfl⟩
  | t' :: ts, cs, hc => by
    obtain ⟨A', l', c', tl, rfl, h1, h2⟩ := hc
    exact ⟨A', l', c', tl ++ _, by simp, h1, TokCells.snoc h h2⟩
theorem TokCells.kept {w w' : World} {B : Nat} {row : Option Nat} (hg : w.grownBy w' row) (hr : ∀ (v : Value) (n : Nat) (xs : List Value), w.ownsRow B 82 2 v n xs → v.ownBlock = none ∨ v.ownBlock ≠ row) : ∀ {ts : List Tok} {cs : List Value}, TokCells w B ts cs → TokCells w' B ts cs
  | [], cs, hc => hc
  | t' :: ts, cs, hc => by
    obtain ⟨A', l', c', tl, rfl, h1, h2⟩ := hc
    exact ⟨A', l', c', tl, rfl, h1.kept hg (hr _ _ _ h1), TokCells.kept hg hr h2⟩
theorem TokCells.kinds {w : World} {B : Nat} : ∀ {ts : List Tok} {cs : List Value}, TokCells w B ts cs → ∀ u ∈ cs, u.oneCell' = true
  | [], cs, hc => by unfold TokCells at hc; subst hc; simp
  | t' :: ts, cs, hc => by
    obtain ⟨A', l', c', tl, rfl, h1, h2⟩ := hc
    intro u hu
    simp at hu
    rcases hu with rfl | rfl | rfl | rfl | rfl | hu
    all_goals first | rfl | exact TokCells.kinds h2 u hu
/-- a slice of tokens, from B on -/
def ToksAt (B : Nat) (w : World) (v : Value) (ts : List Tok) : Prop := ∃ cs : List Value, w.ownsRow B 39 5 v ts.length cs ∧ TokCells w B ts cs
theorem ToksAt.nil (B : Nat) (w : World) : ToksAt B w (.slice none 0 0) [] := ⟨[], World.ownsRow_nil _ _ _ _, rfl⟩
theorem own_ne_own {w : World} {b1 b2 : Nat} {e1 e2 : TypeId} {s1 s2 n1 n2 : Nat} {v1 v2 : Value} {x1 x2 : List Value} (h1 : w.ownsRow b1 e1 s1 v1 n1 x1) (h2 : w.ownsRow b2 e2 s2 v2 n2 x2) (hne : e1 ≠ e2) : v1.ownBlock = none ∨ v1.ownBlock ≠ v2.ownBlock := by
  rcases h2.2 with ⟨rfl, _⟩ | ⟨g', cap, cur, rfl, _, hh, _⟩
  · rcases hv : v1.ownBlock with _ | g
    · exact .inl rfl
    · exact .inr (by simp [Value.ownBlock])
  · exact .inr (own_ne h1 (b := g') (t := e2) (cs := cur) hh hne)
theorem own_lt_ne {w : World} {base b n : Nat} {e : TypeId} {size : Nat} {v : Value} {xs : List Value} (h : w.ownsRow base e size v n xs) (hb : b < base) : v.ownBlock ≠ some b := fun e => by have := (h.lt b e).1; omega
theorem Wk.blk {g : Nat} {r : List UInt8} {w : World} (h : Wk g r w) : Blk w g 59 #[.string (tx r)] := h
/-- a step of the walk leaves the tokens -/
theorem ToksAt.walk {B g : Nat} {r : List UInt8} {w w' : World} {v : Value} {ts : List Tok} (h : ToksAt B w v ts) (hk : Wk g r w) (hg : w.grownBy w' (some g)) : ToksAt B w' v ts := by
  obtain ⟨cs, h1, h2⟩ := h
  exact ⟨cs, h1.kept hg (.inr (own_ne h1 hk.blk (by decide))), h2.kept hg fun v n xs h => .inr (own_ne h hk.blk (by decide))⟩
theorem ToksAt.alloc {B : Nat} {w : World} {v : Value} {ts : List Tok} (h : ToksAt B w v ts) (o : Obj) : ToksAt B (w.alloc o) v ts := by
  obtain ⟨cs, h1, h2⟩ := h
  exact ⟨cs, h1.alloc o, h2.kept (World.grownBy_alloc w o none) fun v n xs _ => by
    rcases hv : v.ownBlock with _ | g
    · exact .inl rfl
    · exact .inr (by simp)⟩
theorem info_tok : (Tryd.prog.info? 39).map (fun i => (i.zero, i.size, i.bytes)) = some (some (.agg #[.int .i64 0, .string ⟨#[]⟩, .string ⟨#[]⟩, .slice none 0 0, .bool false]), 5, 72) := by kernel_rfl
theorem cells_five_new (w : World) (x0 x1 x2 x3 x4 : Value) (t : TypeId) : ∀ j u, [x0, x1, x2, x3, x4][j]? = some u → (w.alloc (.cells #[x0, x1, x2, x3, x4] t)).cell? ((⟨w.heap.size, 0, none⟩ : Addr).add j) = some u := by
  intro j u hj
  match j, hj with
  | 0, hj => simp at hj; subst hj; simp [Addr.add]
  | 1, hj => simp at hj; subst hj; simp [Addr.add]
  | 2, hj => simp at hj; subst hj; simp [Addr.add]
  | 3, hj => simp at hj; subst hj; simp [Addr.add]
  | 4, hj => simp at hj; subst hj; simp [Addr.add]
  | j + 5, hj => simp at hj
theorem five_oneCell (k : Int) (a b : ByteArray) (A : Option Addr) (l c : Nat) (e : Bool) : ∀ u ∈ [Value.int .i64 k, Value.string a, Value.string b, Value.slice A l c, Value.bool e], u.oneCell' = true := by
  intro u hu
  simp at hu
  rcases hu with rfl | rfl | rfl | rfl | rfl <;> rfl

/-- what Split answers -/
def SplitPost (l : List UInt8) (w : World) (e : Ending) (w' : World) : Prop :=
  ∃ (A : Option Addr) (c : Nat), e = .returned (.tuple #[.slice A (splitT l).length c, .int .i64 (splitE l)]) ∧ ToksAt w.heap.size w' (.slice A (splitT l).length c) (splitT l) ∧ Below w.heap.size w w'
theorem splitPost_err {l : List UInt8} {w : World} {e : Ending} {w' : World} {n : Int} (h1 : splitE l = n) (h2 : splitT l = []) (he : e = .returned (.tuple #[.slice none 0 0, .int .i64 n])) (hb : Below w.heap.size w w') : SplitPost l w e w' := by
  unfold SplitPost
  rw [h1, h2]
  exact ⟨none, 0, he, ToksAt.nil _ _, hb⟩
theorem splitPost_ok {l : List UInt8} {w : World} {e : Ending} {w' : World} {ts : List Tok} {A : Option Addr} {c n : Nat} (h1 : splitE l = 0) (h2 : splitT l = ts) (hn : n = ts.length) (he : e = .returned (.tuple #[.slice A n c, .int .i64 0])) (ht : ToksAt w.heap.size w' (.slice A n c) ts) (hb : Below w.heap.size w w') : SplitPost l w e w' := by
  unfold SplitPost
  rw [h1, h2]
  subst hn
  exact ⟨A, c, he, ht, hb⟩

set_option maxRecDepth 100000 in
set_option maxHeartbeats 400000 in
theorem split_big (s : ByteArray) (w : World) (hs : s.size ≤ maxLen) (hb : 20000 < s.size) :
    Calls Tryd.prog 12 #[.string s] w (SplitPost (bs s) w) := by
  unfold maxLen at hs
  have h1 := Lib.hid (splitE_big (l := bs s) (by rw [bs_length]; exact hb))
  have h2 := Lib.hid (splitT_big (l := bs s) (by rw [bs_length]; exact hb))
  go_enter Tryd.func12, Tryd.ntmps12
  go_wp2_with fail
  go_step3
  go_wp2_with fail
  rw [Exit.noGoto_ret]
  go_ret2
  exact splitPost_err h1.out h2.out rfl (Below.refl _ _)

set_option maxRecDepth 100000 in
set_option maxHeartbeats 400000 in
theorem split_byte (s : ByteArray) (w : World) (hs : s.size ≤ 20000) (ha : allL (bs s) = false) :
    Calls Tryd.prog 12 #[.string s] w (SplitPost (bs s) w) := by
  have hns : ¬ 20000 < (bs s).length := by rw [bs_length]; omega
  have h1 := Lib.hid (splitE_byte hns ha)
  have h2 := Lib.hid (splitT_byte hns ha)
  have hm : s.size ≤ maxLen := by unfold maxLen; omega
  clear hns
  go_enter Tryd.func12, Tryd.ntmps12
  go_wp2_with fail
  go_step3
  go_wp2_with (go_at_call 17; refine (allAllowed_c _ _ hm).mono ?_; rintro e w' ⟨rfl, rfl⟩)
  rw [Exit.noGoto_ret]
  go_ret2
  exact splitPost_err h1.out h2.out rfl (Below.refl _ _)

set_option maxRecDepth 100000 in
set_option maxHeartbeats 4000000 in
theorem split_walk (s : ByteArray) (w : World) (hs : s.size ≤ 20000) (ha : allL (bs s) = true) (hg : Glob w) :
    Calls Tryd.prog 12 #[.string s] w (SplitPost (bs s) w) := by
  have hns : ¬ 20000 < (bs s).length := by rw [bs_length]; omega
  have HNS := Lib.hid hns
  have HAL := Lib.hid ha
  have hm : s.size ≤ maxLen := by unfold maxLen; omega
  have HG := Lib.hid hg
  obtain ⟨i0, hi, hz0, hz1, hz2⟩ := info_parts info_tok
  clear hns hg
  go_enter Tryd.func12, Tryd.ntmps12
  go_wp2_with fail
  refine wp_scope_again 0 (fun a' w' => ∃ (rest : List UInt8) (ts : List Tok) (A : Option Addr) (n c : Nat) (u6 u7 u8 u9 u10 u11 u12 u13 u14 u15 u16 u17 u18 u19 u20 u21 u22 u23 u24 u25 u26 u27 u28 u29 u30 u31 u32 : Value), a' = { tmps := #[.string s, undef, .slice none 0 0, .int .i64 0, .slice A n c, .pointer (some ⟨w.heap.size, 0, none⟩), u6, u7, u8, u9, u10, u11, u12, u13, u14, u15, u16, u17, u18, u19, u20, u21, u22, u23, u24, u25, u26, u27, u28, u29, u30, u31, u32], defers := [] } ∧ Hid (n = ts.length ∧ Wk w.heap.size rest w' ∧ ToksAt w.heap.size w' (.slice A n c) ts ∧ Below w.heap.size w w' ∧ rest.length + ts.length ≤ s.size ∧ splitL (bs s) = (splitM (n == 0) rest).map (ts ++ ·))) (fun _ w' => wkLen w.heap.size w') rfl ?_ ?_
  · rintro a' w' ⟨rest, ts, A, n, c, u6, u7, u8, u9, u10, u11, u12, u13, u14, u15, u16, u17, u18, u19, u20, u21, u22, u23, u24, u25, u26, u27, u28, u29, u30, u31, u32, rfl, hh⟩
    obtain ⟨hn, hk, htk, hbel, hlen, hsp⟩ := hh.out
    clear hh
    have HN := Lib.hid hn
    have HK := Lib.hid hk
    have HT := Lib.hid htk
    have HW := Lib.hid (wkLen_eq hk)
    have hws := hbel.size
    have hglt := hk.lt
    have hc := hk.cell
    have hn20 : n ≤ 20000 := by omega
    have hrl : rest.length ≤ 100000 := by omega
    clear hn hk htk
    by_cases hre : rest = []
    · subst hre
      have hsl : splitL (bs s) = some ts := by rw [hsp, splitM_nil]; simp
      have H1 := Lib.hid (splitE_some HNS.out HAL.out hsl)
      have H2 := Lib.hid (splitT_some HNS.out HAL.out hsl)
      have he : (tx []).toList = [] := toList_nil_of _ (by rw [tx_size]; rfl)
      clear hsl hsp
      go_wp2_with fail
      simp only [Exit.jump]
      go_ret2
      exact splitPost_ok H1.out H2.out HN.out rfl HT.out hbel
    · have hrp : 0 < rest.length := by
        cases rest with
        | nil => exact absurd rfl hre
        | cons => simp
      have hne : ¬ (tx rest).toList = [] := toList_ne_of _ (by rw [tx_size]; exact hrp)
      have hne2 : (tx rest).toList.isEmpty = false := by simpa using hne
      rw [splitM_step hre] at hsp
      have hzero : ∀ b : Bool, ((n : Int) == 0) = b → (n == 0) = b := by
        intro b hb
        rw [← hb, Bool.eq_iff_iff, beq_iff_eq, beq_iff_eq]
        omega
      clear hre
      obtain ⟨f, hf⟩ : ∃ f : Bool, ((n : Int) == 0) = f := ⟨_, rfl⟩
      rw [hzero f hf] at hsp
      clear hzero
      cases ht : tokL f rest with
      | none =>
        rw [ht] at hsp
        have H1 := Lib.hid (splitE_none HNS.out HAL.out hsp)
        have H2 := Lib.hid (splitT_none HNS.out HAL.out hsp)
        have HTK := Lib.hid ht
        clear hsp ht
        go_wp2_with fail
        refine (token_c w.heap.size _ _ _ HK.out (HG.out.below hbel) hrl).mono ?_
        intro e w2 hp2
        unfold TokPost at hp2
        rw [HTK.out] at hp2
        obtain ⟨rfl, ⟨r2, hk2⟩, hg2⟩ := hp2
        have hbel2 := hbel.grown hg2 hws (fun k hk => by simp at hk; omega)
        clear hk2 hg2
        go_wp2_with fail
        simp only [Exit.jump]
        go_ret2
        exact splitPost_err H1.out H2.out rfl (hbel2.alloc hbel2.size _)
      | some x =>
        obtain ⟨t, rest2⟩ := x
        rw [ht] at hsp
        have hlt2 := tokL_lt ht hrp
        have HSP : Hid (splitL (bs s) = (splitM false rest2).map ((ts ++ [t]) ++ ·)) := Lib.hid (by
          rw [hsp]
          simp only [Option.map_map]
          congr 1
          funext q
          simp)
        have HTK := Lib.hid ht
        clear hsp ht
        go_wp2_with fail
        refine (token_c w.heap.size _ _ _ HK.out (HG.out.below hbel) hrl).mono ?_
        intro e w2 hp2
        unfold TokPost at hp2
        rw [HTK.out] at hp2
        obtain ⟨A2, l2, c2, rfl, hrow2, hk2, hg2⟩ := hp2
        have HK2 := Lib.hid hk2
        have HT2 := Lib.hid (HT.out.walk HK.out hg2)
        have HR2 := Lib.hid (row_mono hrow2 hws)
        have hbel2 := hbel.grown hg2 hws (fun k hk => by simp at hk; omega)
        have hw2 := hbel2.size
        clear hk2 hg2 hrow2
        obtain ⟨cs, hcs, htc⟩ := ((HT2.out.alloc (.cells #[.int .i64 (t.kind : Int), .string (tx t.name), .string (tx t.text), .slice A2 l2 c2, .bool t.empty] 39)).alloc (.cells #[.int .i64 (t.kind : Int), .string (tx t.name), .string (tx t.text), .slice A2 l2 c2, .bool t.empty] 39))
        rw [← HN.out] at hcs
        have HCS := Lib.hid hcs
        have HTC := Lib.hid htc
        have hnews := cells_five_new (w2.alloc (.cells #[.int .i64 (t.kind : Int), .string (tx t.name), .string (tx t.text), .slice A2 l2 c2, .bool t.empty] 39)) (.int .i64 (t.kind : Int)) (.string (tx t.name)) (.string (tx t.text)) (.slice A2 l2 c2) (.bool t.empty) 39
        have hszz : (w2.alloc (.cells #[.int .i64 (t.kind : Int), .string (tx t.name), .string (tx t.text), .slice A2 l2 c2, .bool t.empty] 39)).heap.size = w2.heap.size + 1 := by simp
        rw [hszz] at hnews
        have HNEWS := Lib.hid hnews
        clear hcs htc hnews hszz
        go_wp2_with (at_builtin; refine wpList_append_own_at _ rfl _ _ 40 rfl w.heap.size 39 i0 _ 5 72 Tryd.underlying40 hi hz0 hz1 hz2 rfl (by decide) _ n cs rfl HCS.out ⟨w2.heap.size + 1, 0, none⟩ 1 1 [.int .i64 (t.kind : Int), .string (tx t.name), .string (tx t.text), .slice A2 l2 c2, .bool t.empty] rfl rfl HNEWS.out (five_oneCell _ _ _ _ _ _ _) (by unfold maxLen; omega) (by omega) (by simp; omega) ?_; intro v' w5 hown5 hgrow5 _ _)
        obtain ⟨A', c', rfl⟩ := own_form hown5
        have hbel5 := ((hbel2.alloc hw2 _).alloc (by simp; omega) _).grown hgrow5 (by simp; omega) (fun k hk => (HCS.out.lt k hk).1)
        have hk5 := ((HK2.out.alloc _).alloc _).grown hgrow5 (fun e => own_ne HCS.out ((HK2.out.alloc _).alloc _).blk (by decide) e.symm)
        have hr5 := ((HR2.out.alloc _).alloc _).kept hgrow5 (own_ne_own ((HR2.out.alloc _).alloc _) HCS.out (by decide))
        have ht5 := (HTC.out.kept hgrow5 (fun v n xs h => own_ne_own h HCS.out (by decide))).snoc hr5
        have hl1 : (ts ++ [t]).length = n + 1 := by rw [List.length_append, HN.out]; rfl
        have hz1' : (n + 1 == 0) = false := by simp
        go_step3
        refine ⟨rfl, ⟨rest2, ts ++ [t], A', n + 1, c', _, _, _, _, _, _, _, _, _, _, _, _, _, _, _, _, _, _, _, _, _, _, _, _, _, _, _, rfl, hl1.symm, hk5, ⟨_, by rw [hl1]; exact hown5, ht5⟩, hbel5, by rw [hl1]; have := HN.out; omega, by rw [hz1']; exact HSP.out⟩, ?_⟩
        rw [wkLen_eq hk5, HW.out]
        exact hlt2
  · intro hpass
    go_wp2_with (go_at_call 17; refine (allAllowed_c _ _ hm).mono ?_; rintro e w' ⟨rfl, rfl⟩)
    go_step3
    rename_i hK
    refine hK _ _ (hpass.out _ _ ⟨bs s, [], none, 0, 0, _, _, _, _, _, _, _, _, _, _, _, _, _, _, _, _, _, _, _, _, _, _, _, _, _, _, _, rfl, rfl, ?_, ToksAt.nil _ _, (Below.refl _ _).alloc (Nat.le_refl _) _, by simp [bs_length], by simp [splitL_M]⟩)
    exact Blk.new w _ _

theorem Split_c (s : ByteArray) (w : World) (hs : s.size ≤ maxLen) (hg : Glob w) :
    Calls Tryd.prog 12 #[.string s] w (SplitPost (bs s) w) := by
  by_cases hb : 20000 < s.size
  · exact split_big s w hs hb
  · cases ha : allL (bs s) with
    | true => exact split_walk s w (by omega) ha hg
    | false => exact split_byte s w (by omega) ha

end Go.Proofs.YtbojnmiaheohaaaDoor
