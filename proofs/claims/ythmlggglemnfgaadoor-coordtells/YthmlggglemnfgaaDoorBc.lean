/-
  Contracts of strings.TrimLeft by noughts, words.number and words.word. Contracts of words.withoutNothing and words.Split: rows of words in memory.
-/
import Derived.Test.YthmlggglemnfgaaDoorBb
namespace Nwl
def is0 (c : UInt8) : Bool := c.toNat == 48
def drop0B (s : ByteArray) : ByteArray := tx ((bs s).dropWhile is0)
theorem drop0B_step (s : ByteArray) (h : 0 < s.size) (hc : is0 s[0] = true) : drop0B (s.extract 1 s.size) = drop0B s := by
  unfold drop0B
  rw [bs_from]
  conv => rhs; rw [bs_cons s h]
  rw [List.dropWhile_cons, if_pos hc]
theorem drop0B_end (s : ByteArray) (h : ∀ h : 0 < s.size, is0 s[0] = false) : drop0B s = s := by
  unfold drop0B
  rcases Nat.eq_zero_or_pos s.size with h0 | h0
  · have : bs s = [] := List.eq_nil_of_length_eq_zero (by rw [bs_length]; exact h0)
    rw [this]
    exact bs_inj (by rw [this]; rfl)
  · rw [bs_cons s h0, List.dropWhile_cons, if_neg (by rw [h h0]; decide), ← bs_cons s h0, tx_bs]
theorem numW_eq (s : List UInt8) (d : Bool) : numW s d = if (s.dropWhile is0).isEmpty then ⟨6, []⟩ else if d then ⟨9, s.dropWhile is0⟩ else ⟨10, s.dropWhile is0⟩ := rfl
end Nwl
namespace Go.Proofs.YthmlggglemnfgaaDoor
open Nwl
open Go.RowKit Go.Maps
set_option linter.unusedVariables false

/-- a word's value -/
abbrev wdV (r : Wd) : Value := .agg #[.int .i64 (r.k : Nat), .string (tx r.t)]
theorem wdV_mk (k : Nat) (t : List UInt8) (s : ByteArray) (h : s = tx t) : wdV ⟨k, t⟩ = .agg #[.int .i64 k, .string s] := by rw [h]

set_option maxHeartbeats 800000 in
theorem trimLeftByte_c (s : ByteArray) (w : World) (hs : s.size ≤ maxLen) :
    Calls Tryd.prog 74 #[.string s, .int .u8 48] w fun e w' => e = .returned (.string (drop0B s)) ∧ w = w' := by
  unfold maxLen at hs
  go_enter Tryd.func74, Tryd.ntmps74
  go_wp2
  go_loop [0] (fun v => ∃ t : ByteArray, t.size ≤ s.size ∧ v = .string t ∧ Hid (drop0B t = drop0B s)) (fun v => match v with | .string t => t.size | _ => 0)
  case atStart => exact ⟨s, by omega, rfl, rfl⟩
  case round =>
    obtain ⟨t, ht, rfl, hd⟩ := hrel
    by_cases hlt : 0 < t.size
    · cases hc : is0 t[0] with
      | true =>
        have hst : Hid (drop0B (t.extract 1 t.size) = drop0B s) := Lib.hid ((drop0B_step t hlt hc).trans hd.out)
        have hsz : Hid ((t.extract 1 t.size).size = t.size - 1) := Lib.hid (extract_size t 1 t.size (Nat.le_refl _))
        have hcc : ((t[0].toNat : Int) == 48) = true := by
          unfold is0 at hc
          rw [beq_iff_eq] at hc ⊢
          omega
        clear hc
        go_wp2_with fail
        go_round
        case rel => exact ⟨_, by rw [hsz.out]; omega, rfl, hst⟩
        case measure => simp only []; rw [hsz.out]; omega
      | false =>
        have hfin : Hid (t = drop0B s) := Lib.hid ((drop0B_end t fun _ => hc).symm.trans hd.out)
        have hcc : ((t[0].toNat : Int) == 48) = false := by
          unfold is0 at hc
          rw [beq_eq_false_iff_ne] at hc ⊢
          omega
        clear hc hd
        go_wp2_with fail
        go_ret
        exact ⟨ret_str hfin.out, rfl⟩
    · have hfin : Hid (t = drop0B s) := Lib.hid ((drop0B_end t fun h => absurd h hlt).symm.trans hd.out)
      clear hd
      go_wp2_with fail
      go_ret
      exact ⟨ret_str hfin.out, rfl⟩

set_option maxRecDepth 100000 in
set_option maxHeartbeats 800000 in
theorem TrimLeft_c (s : ByteArray) (w : World) (hs : s.size ≤ maxLen) :
    Calls Tryd.prog 71 #[.string s, .string ⟨#[48]⟩] w fun e w' => e = .returned (.string (drop0B s)) ∧ w = w' := by
  by_cases h0 : s.size = 0
  · have he : s.toList = [] := toList_nil_of s h0
    have hd := Lib.hid (drop0B_end s fun h => by omega)
    clear h0
    go_enter Tryd.func71, Tryd.ntmps71
    go_wp2_with fail
    go_ret
    exact ⟨ret_str hd.out.symm, rfl⟩
  · have hne : ¬ s.toList = [] := toList_ne_of s (by omega)
    have hne2 : s.toList.isEmpty = false := by simpa using hne
    go_enter Tryd.func71, Tryd.ntmps71
    go_wp2_with (go_at_call 74; refine (trimLeftByte_c _ _ hs).mono ?_; rintro e w' ⟨rfl, rfl⟩)
    go_ret
    exact ⟨rfl, rfl⟩

set_option maxHeartbeats 1000000 in
theorem number_c (s : ByteArray) (d : Bool) (w : World) (hs : s.size ≤ maxLen) (r : Wd) (hr : numW (bs s) d = r) :
    Calls Tryd.prog 61 #[.string s, .bool d] w fun e w' => e = .returned (wdV r) ∧ Below w.heap.size w w' := by
  rw [numW_eq] at hr
  cases he : ((bs s).dropWhile is0).isEmpty with
  | true =>
    rw [he] at hr
    subst hr
    have hz : (drop0B s).toList = [] := by rw [toList_bs, drop0B, bs_tx]; simpa using he
    clear he
    go_enter Tryd.func61, Tryd.ntmps61
    go_wp2_with (go_at_call 71; refine (TrimLeft_c _ _ hs).mono ?_; rintro e w' ⟨rfl, rfl⟩)
    exact bodyPost_ret (v := .agg #[.int .i64 6, .string ⟨#[]⟩]) (by simp [results, Tryd.results61, go_sem]) rfl ⟨rfl, (Below.refl _ _).alloc (Nat.le_refl _) _⟩
  | false =>
    have hz : ¬ (drop0B s).toList = [] := by rw [toList_bs, drop0B, bs_tx]; simpa using he
    have hz2 : (drop0B s).toList.isEmpty = false := by simpa using hz
    rw [he] at hr
    clear he
    cases d with
    | true =>
      subst hr
      go_enter Tryd.func61, Tryd.ntmps61
      go_wp2_with (go_at_call 71; refine (TrimLeft_c _ _ hs).mono ?_; rintro e w' ⟨rfl, rfl⟩)
      exact bodyPost_ret (v := .agg #[.int .i64 9, .string (drop0B s)]) (by simp [results, Tryd.results61, go_sem]) rfl ⟨rfl, (Below.refl _ _).alloc (Nat.le_refl _) _⟩
    | false =>
      subst hr
      go_enter Tryd.func61, Tryd.ntmps61
      go_wp2_with (go_at_call 71; refine (TrimLeft_c _ _ hs).mono ?_; rintro e w' ⟨rfl, rfl⟩)
      exact bodyPost_ret (v := .agg #[.int .i64 10, .string (drop0B s)]) (by simp [results, Tryd.results61, go_sem]) rfl ⟨rfl, (Below.refl _ _).alloc (Nat.le_refl _) _⟩

theorem wordW_num {s : List UInt8} {d n : Bool} (h : (s.isEmpty || digHd s) = true) : wordW s d n = numW s d := by unfold wordW; rw [if_pos h]
theorem wordW_oth {s : List UInt8} {d n : Bool} (h : (s.isEmpty || digHd s) = false) (hk : kindW s n = 8) : wordW s d n = ⟨8, s⟩ := by unfold wordW; rw [if_neg (by rw [h]; decide), hk]; rfl
theorem wordW_kind {s : List UInt8} {d n : Bool} (h : (s.isEmpty || digHd s) = false) (hk : ¬ kindW s n = 8) : wordW s d n = ⟨kindW s n, []⟩ := by unfold wordW; rw [if_neg (by rw [h]; decide), if_neg (by simpa using hk)]
theorem digHd_bs (s : ByteArray) (h : 0 < s.size) : digHd (bs s) = digitI s[0].toNat := by rw [bs_cons s h]; rfl

/-- a result's box, two cells -/
theorem box_two {w w1 : World} {t : TypeId} {x y : Value} (h : Below (w.alloc (.cells #[x, y] t)).heap.size (w.alloc (.cells #[x, y] t)) w1) : w1.cell? ⟨w.heap.size, 0, none⟩ = some x ∧ w1.cell? ⟨w.heap.size, 1, none⟩ = some y ∧ w1.frozen? ⟨w.heap.size, 0, none⟩ = false ∧ w1.frozen? ⟨w.heap.size, 1, none⟩ = false ∧ Below w.heap.size w w1 := by
  have hb := (Blk.new w t #[x, y]).below h
  exact ⟨hb.cell 0, hb.cell 1, hb.frozen 0, hb.frozen 1, ((Below.refl w.heap.size w).alloc (Nat.le_refl _) _).trans (h.mono (by simp))⟩

set_option maxRecDepth 100000 in
set_option maxHeartbeats 2000000 in
theorem word_num (s : ByteArray) (d n : Bool) (w : World) (hs : s.size ≤ maxLen) (r : Wd) (hr : numW (bs s) d = r) (h0 : s.size = 0 ∨ ∃ h : 0 < s.size, digitI s[0].toNat = true) :
    Calls Tryd.prog 48 #[.string s, .bool d, .bool n] w fun e w' => e = .returned (wdV r) ∧ Below w.heap.size w w' := by
  have HR := Lib.hid hr
  clear hr
  rcases h0 with h0 | ⟨h0, hc⟩
  · have he : s.toList = [] := toList_nil_of s h0
    clear h0
    go_enter Tryd.func48, Tryd.ntmps48
    go_wp2_with fail
    refine (number_c s d _ hs r HR.out).mono ?_
    rintro e w1 ⟨rfl, hb1⟩
    obtain ⟨c0, c1, f0, f1, hbel⟩ := box_two hb1
    have HB := Lib.hid hbel
    clear hb1 hbel
    go_wp2_with fail
    exact bodyPost_ret (v := wdV r) (by simp [results, Tryd.results48, go_sem, c0, c1]) rfl ⟨rfl, (HB.out.setCell (Nat.le_refl _) _).setCell (Nat.le_refl _) _⟩
  · have hne : ¬ s.toList = [] := toList_ne_of s (by omega)
    have hne2 : s.toList.isEmpty = false := by simpa using hne
    go_enter Tryd.func48, Tryd.ntmps48
    go_wp2_with (go_at_call 31; refine (Digit_c _ _).mono ?_; rintro e w' ⟨rfl, rfl⟩)
    refine (number_c s d _ hs r HR.out).mono ?_
    rintro e w1 ⟨rfl, hb1⟩
    obtain ⟨c0, c1, f0, f1, hbel⟩ := box_two hb1
    have HB := Lib.hid hbel
    clear hb1 hbel
    go_wp2_with fail
    exact bodyPost_ret (v := wdV r) (by simp [results, Tryd.results48, go_sem, c0, c1]) rfl ⟨rfl, (HB.out.setCell (Nat.le_refl _) _).setCell (Nat.le_refl _) _⟩

theorem namedKind_b (s : ByteArray) (w : World) (k : Nat) (h : namedK (bs s) = k) :
    Calls Tryd.prog 62 #[.string s] w fun e w' => e = .returned (.int .i64 k) ∧ w = w' := by
  subst h; exact namedKind_c s w

theorem shortKind_b (s : ByteArray) (w : World) (k : Nat) (h : shortK (bs s) = k) :
    Calls Tryd.prog 63 #[.string s] w fun e w' => e = .returned (.int .i64 k) ∧ w = w' := by
  subst h; exact shortKind_c s w

set_option maxRecDepth 100000 in
set_option maxHeartbeats 2000000 in
theorem word_oth (s : ByteArray) (d n : Bool) (w : World) (h0 : 0 < s.size) (hc : digitI s[0].toNat = false) (k1 k2 : Nat) (h1 : namedK (bs s) = k1) (h2 : shortK (bs s) = k2) (hk : kindW (bs s) n = 8) :
    Calls Tryd.prog 48 #[.string s, .bool d, .bool n] w fun e w' => e = .returned (.agg #[.int .i64 8, .string s]) ∧ Below w.heap.size w w' := by
  have hne : ¬ s.toList = [] := toList_ne_of s (by omega)
  have hne2 : s.toList.isEmpty = false := by simpa using hne
  unfold kindW at hk
  rw [h1, h2] at hk
  have H1 := Lib.hid h1
  have H2 := Lib.hid h2
  clear h1 h2
  have hcase : (n = false ∧ k1 = 8) ∨ (n = true ∧ k1 = 8 ∧ k2 = 8) := by
    cases n <;> simp at hk
    · exact .inl ⟨rfl, hk⟩
    · refine .inr ⟨rfl, ?_⟩
      by_cases e : k1 = 8
      · exact ⟨e, by rw [if_pos e] at hk; exact hk⟩
      · rw [if_neg e] at hk; exact absurd hk e
  clear hk
  rcases hcase with ⟨rfl, rfl⟩ | ⟨rfl, rfl, rfl⟩
  all_goals
    go_enter Tryd.func48, Tryd.ntmps48
    go_wp2_with (first
      | (go_at_call 31; refine (Digit_c _ _).mono ?_; rintro e w' ⟨rfl, rfl⟩)
      | (go_at_call 62; refine (namedKind_b _ _ _ H1.out).mono ?_; rintro e w' ⟨rfl, rfl⟩)
      | (go_at_call 63; refine (shortKind_b _ _ _ H2.out).mono ?_; rintro e w' ⟨rfl, rfl⟩))
    exact bodyPost_ret (v := .agg #[.int .i64 8, .string s]) (by simp [results, Tryd.results48, go_sem]) rfl ⟨rfl, (Below.refl _ _).alloc (Nat.le_refl _) _⟩

set_option maxRecDepth 100000 in
set_option maxHeartbeats 2000000 in
theorem word_kind (s : ByteArray) (d n : Bool) (w : World) (h0 : 0 < s.size) (hc : digitI s[0].toNat = false) (k1 k2 k : Nat) (h1 : namedK (bs s) = k1) (h2 : shortK (bs s) = k2) (hk : kindW (bs s) n = k) (hk8 : ¬ k = 8) :
    Calls Tryd.prog 48 #[.string s, .bool d, .bool n] w fun e w' => e = .returned (.agg #[.int .i64 k, .string ⟨#[]⟩]) ∧ Below w.heap.size w w' := by
  have hne : ¬ s.toList = [] := toList_ne_of s (by omega)
  have hne2 : s.toList.isEmpty = false := by simpa using hne
  unfold kindW at hk
  rw [h1, h2] at hk
  have H1 := Lib.hid h1
  have H2 := Lib.hid h2
  clear h1 h2
  have hkb : ((k : Int) == 8) = false := by rw [beq_eq_false_iff_ne]; omega
  have hcase : k1 = k ∨ (n = true ∧ k1 = 8 ∧ k2 = k) := by
    cases n <;> simp at hk
    · exact .inl hk
    · by_cases e : k1 = 8
      · exact .inr ⟨rfl, e, by rw [if_pos e] at hk; exact hk⟩
      · rw [if_neg e] at hk; exact .inl hk
  clear hk hk8
  rcases hcase with rfl | ⟨rfl, rfl, rfl⟩
  · cases n
    all_goals
      go_enter Tryd.func48, Tryd.ntmps48
      go_wp2_with (first
        | (go_at_call 31; refine (Digit_c _ _).mono ?_; rintro e w' ⟨rfl, rfl⟩)
        | (go_at_call 62; refine (namedKind_b _ _ _ H1.out).mono ?_; rintro e w' ⟨rfl, rfl⟩))
      exact bodyPost_ret (v := .agg #[.int .i64 k1, .string ⟨#[]⟩]) (by simp [results, Tryd.results48, go_sem]) rfl ⟨rfl, (Below.refl _ _).alloc (Nat.le_refl _) _⟩
  · go_enter Tryd.func48, Tryd.ntmps48
    go_wp2_with (first
      | (go_at_call 31; refine (Digit_c _ _).mono ?_; rintro e w' ⟨rfl, rfl⟩)
      | (go_at_call 62; refine (namedKind_b _ _ _ H1.out).mono ?_; rintro e w' ⟨rfl, rfl⟩)
      | (go_at_call 63; refine (shortKind_b _ _ _ H2.out).mono ?_; rintro e w' ⟨rfl, rfl⟩))
    exact bodyPost_ret (v := .agg #[.int .i64 k2, .string ⟨#[]⟩]) (by simp [results, Tryd.results48, go_sem]) rfl ⟨rfl, (Below.refl _ _).alloc (Nat.le_refl _) _⟩

theorem word_c (s : ByteArray) (d n : Bool) (w : World) (hs : s.size ≤ maxLen) (r : Wd) (hr : wordW (bs s) d n = r) :
    Calls Tryd.prog 48 #[.string s, .bool d, .bool n] w fun e w' => e = .returned (wdV r) ∧ Below w.heap.size w w' := by
  by_cases h0 : 0 < s.size
  · cases hc : digitI s[0].toNat with
    | true => exact word_num s d n w hs r ((wordW_num (by rw [digHd_bs s h0, hc, Bool.or_true])).symm.trans hr) (.inr ⟨h0, hc⟩)
    | false =>
      have hh : ((bs s).isEmpty || digHd (bs s)) = false := by rw [digHd_bs s h0, hc, bs_cons s h0]; rfl
      by_cases hk : kindW (bs s) n = 8
      · rw [wordW_oth hh hk] at hr
        subst hr
        exact word_oth s d n w h0 hc _ _ rfl rfl hk
      · rw [wordW_kind hh hk] at hr
        subst hr
        exact word_kind s d n w h0 hc _ _ _ rfl rfl rfl hk
  · have hb : bs s = [] := List.eq_nil_of_length_eq_zero (by rw [bs_length]; omega)
    exact word_num s d n w hs r ((wordW_num (by rw [hb]; rfl)).symm.trans hr) (.inl (by omega))
end Go.Proofs.YthmlggglemnfgaaDoor

namespace Nwl
theorem wn_take {l : List Wd} {m : Nat} (hm : m ≤ l.length) (h : ∀ j (hj : j < l.length), m ≤ j → noN l[j] = true) : wn (l.take m) = wn l := by
  unfold wn
  congr 1
  conv => rhs; rw [← List.take_append_drop m l, List.reverse_append]
  rw [List.dropWhile_append_of_pos]
  intro a ha
  rw [List.mem_reverse] at ha
  obtain ⟨i, hi, rfl⟩ := List.mem_iff_getElem.1 ha
  rw [List.length_drop] at hi
  rw [List.getElem_drop]
  exact h _ (by omega) (by omega)
theorem wn_stop {l : List Wd} {k : Nat} (hk : k < l.length) (h : noN l[k] = false) : wn (l.take (k + 1)) = l.take (k + 1) := by
  rw [← List.take_append_getElem hk, wn_yes _ _ h]
theorem wn_len (l : List Wd) : (wn l).length ≤ l.length := by
  unfold wn
  rw [List.length_reverse]
  refine Nat.le_trans (List.dropWhile_sublist _).length_le ?_
  rw [List.length_reverse]
  exact Nat.le_refl _
theorem wn_pre (l : List Wd) : wn l = l.take (wn l).length := by
  have h := List.dropWhile_suffix noN (l := l.reverse)
  obtain ⟨t, ht⟩ := h
  have h2 : l = wn l ++ t.reverse := by
    have := congrArg List.reverse ht
    rw [List.reverse_append, List.reverse_reverse] at this
    exact this.symm
  have h3 := congrArg (List.take (wn l).length) h2
  rw [h3, List.take_left]
end Nwl
namespace Go.Proofs.YthmlggglemnfgaaDoor
open Nwl
open Go.RowKit Go.Maps
set_option linter.unusedVariables false

/-- words as cells -/
def wdCells (l : List Wd) : List Value := l.flatMap fun a => [.int .i64 (a.k : Nat), .string (tx a.t)]
theorem wdCells_len : ∀ (l : List Wd), (wdCells l).length = l.length * 2
  | [] => rfl
  | a :: l => by
    have := wdCells_len l
    show ((Value.int .i64 (a.k : Nat)) :: (Value.string (tx a.t)) :: wdCells l).length = _
    rw [List.length_cons, List.length_cons, this, List.length_cons]
    omega
theorem wdCells_app (a b : List Wd) : wdCells (a ++ b) = wdCells a ++ wdCells b := by simp [wdCells]
theorem wdCells_get : ∀ (l : List Wd) (j : Nat) (h : j < l.length), (wdCells l)[j * 2]? = some (.int .i64 (l[j].k : Nat)) ∧ (wdCells l)[j * 2 + 1]? = some (.string (tx l[j].t))
  | a :: l, 0, h => ⟨rfl, rfl⟩
  | a :: l, j + 1, h => by
    have := wdCells_get l j (by simpa using h)
    have e : wdCells (a :: l) = .int .i64 (a.k : Nat) :: .string (tx a.t) :: wdCells l := rfl
    rw [e]
    have e1 : (j + 1) * 2 = j * 2 + 1 + 1 := by omega
    rw [e1]
    simpa using this
theorem wdCells_take (l : List Wd) (m : Nat) : wdCells (l.take m) = (wdCells l).take (m * 2) := by
  rcases Nat.lt_or_ge l.length m with h | h
  · rw [List.take_of_length_le (by omega), List.take_of_length_le (by rw [wdCells_len]; omega)]
  · have e := wdCells_app (l.take m) (l.drop m)
    rw [List.take_append_drop] at e
    rw [e, List.take_left' (by rw [wdCells_len, List.length_take]; omega)]
theorem wdCells_one : ∀ (l : List Wd), ∀ u ∈ wdCells l, u.oneCell' = true
  | [], u, h => by simp [wdCells] at h
  | a :: l, u, h => by
    have e : wdCells (a :: l) = .int .i64 (a.k : Nat) :: .string (tx a.t) :: wdCells l := rfl
    rw [e] at h
    simp at h
    rcases h with rfl | rfl | h
    · rfl
    · rfl
    · exact wdCells_one l u h

/-- a row of words that was made from block B on -/
def WdRow (B : Nat) (w : World) (A : Option Addr) (n c : Nat) (l : List Wd) : Prop := n = l.length ∧ w.ownsRow B 53 2 (.slice A n c) n (wdCells l)
theorem WdRow.nil (B : Nat) (w : World) : WdRow B w none 0 0 [] := ⟨rfl, World.ownsRow_nil _ _ _ _⟩
theorem WdRow.cells {B : Nat} {w : World} {A : Option Addr} {n c : Nat} {l : List Wd} (h : WdRow B w A n c l) : A = none ∧ n = 0 ∧ l = [] ∧ c = 0 ∨ ∃ g, A = some ⟨g, 0, none⟩ ∧ B ≤ g ∧ g < w.heap.size ∧ n ≤ c ∧ c ≤ maxLen ∧ ∀ j (hj : j < l.length), w.cell? ⟨g, j * 2, none⟩ = some (.int .i64 (l[j].k : Nat)) ∧ w.cell? ⟨g, j * 2 + 1, none⟩ = some (.string (tx l[j].t)) := by
  obtain ⟨hn, h⟩ := h
  have h0 := h
  rcases h.2 with ⟨hv, h1⟩ | ⟨g, cap, cur, hv, hg, hh, hc, hm, hs, ht⟩
  · injection hv with e1 e2 e3
    exact .inl ⟨e1, h1, List.eq_nil_of_length_eq_zero (by omega), e3⟩
  · injection hv with e1 e2 e3
    subst e1 e3
    refine .inr ⟨g, rfl, hg, (Array.getElem?_eq_some_iff.1 hh).1, hc, hm, fun j hj => ?_⟩
    obtain ⟨q1, q2⟩ := wdCells_get l j hj
    have r1 := h0.cells (g := g) rfl _ _ q1
    have r2 := h0.cells (g := g) rfl _ _ q2
    rw [addr_add0'] at r1 r2
    exact ⟨r1, r2⟩
theorem WdRow.cut {B : Nat} {w : World} {g n c : Nat} {l : List Wd} (h : WdRow B w (some ⟨g, 0, none⟩) n c l) (m : Nat) (hm : m ≤ l.length) : WdRow B w (some ⟨g, 0, none⟩) m c (l.take m) := by
  obtain ⟨hn, h⟩ := h
  have hl : (l.take m).length = m := by rw [List.length_take]; omega
  refine ⟨hl.symm, by rw [wdCells_len, hl], ?_⟩
  rcases h.2 with ⟨hv, h1⟩ | ⟨g', cap, cur, hv, hg, hh, hc, hx, hs, ht⟩
  · cases hv
  · injection hv with e1 e2 e3
    injection e1 with e1
    injection e1 with e1
    subst e1 e3
    refine .inr ⟨g, c, cur, rfl, hg, hh, by omega, hx, hs, ?_⟩
    rw [wdCells_take, ← ht, List.take_take, Nat.min_eq_left (by omega)]

set_option maxRecDepth 100000 in
set_option maxHeartbeats 800000 in
theorem withoutNothing_c (B : Nat) (A : Option Addr) (n c : Nat) (l : List Wd) (w : World) (h : WdRow B w A n c l) (m : Nat) (hm : (wn l).length = m) :
    Calls Tryd.prog 50 #[.slice A n c] w fun e w' => e = .returned (.slice A m c) ∧ w = w' := by
  have HM := Lib.hid hm
  rcases h.cells with ⟨rfl, rfl, rfl, rfl⟩ | ⟨g, rfl, _, hg, hnc, hcm, hcells⟩
  · obtain rfl : m = 0 := by rw [← hm]; rfl
    clear hm h
    go_enter Tryd.func50, Tryd.ntmps50
    go_wp2_with fail
    refine wp_scope_again 0 (fun a' w' => False) (fun _ _ => 0) rfl ?_ ?_
    · rintro a' w' hf
      exact hf.elim
    · intro _
      go_wp2_with fail
      go_step3
      go_wp2_with fail
      simp only [Exit.jump]
      go_ret
      exact ⟨rfl, rfl⟩
  · have hn := h.1
    have HC := Lib.hid hcells
    have HN := Lib.hid hn
    clear hcells hm h hn
    unfold maxLen at hcm
    go_enter Tryd.func50, Tryd.ntmps50
    go_wp2_with fail
    refine wp_scope_again 0 (fun a' w' => w = w' ∧ ∃ (i : Int) (k : Nat) (u4 u5 u6 u7 u8 u9 u10 u11 u12 u13 u14 u15 u16 u17 u18 u19 u20 u21 : Value), a' = { tmps := #[.slice (some ⟨g, 0, none⟩) n c, undef, .slice none 0 0, .int .i64 i, u4, u5, u6, u7, u8, u9, u10, u11, u12, u13, u14, u15, u16, u17, u18, u19, u20, u21], defers := [] } ∧ i = k ∧ k ≤ n ∧ Hid (∀ j (hj : j < l.length), k ≤ j → noN l[j] = true)) (fun a' _ => (intOf (a'.tmps.getD 3 undef)).toNat) rfl ?_ ?_
    · rintro a' w' ⟨rfl, i, k, u4, u5, u6, u7, u8, u9, u10, u11, u12, u13, u14, u15, u16, u17, u18, u19, u20, u21, rfl, hik, hk, hinv⟩
      have hfin : Hid (wn (l.take k) = wn l) := Lib.hid (wn_take (by have := HN.out; omega) hinv.out)
      rcases Nat.eq_zero_or_pos k with h0 | h0
      · subst h0
        obtain rfl : i = 0 := hik
        have hm0 : Hid (m = 0) := Lib.hid (by rw [← HM.out, ← hfin.out]; rfl)
        go_wp2_with fail
        simp only [Exit.jump]
        go_ret
        obtain rfl := hm0.out
        exact ⟨rfl, rfl⟩
      · obtain ⟨j, rfl⟩ : ∃ j, k = j + 1 := ⟨k - 1, by omega⟩
        obtain rfl : i = (j : Int) + 1 := hik
        have hjl : j < l.length := by have := HN.out; omega
        have hc1 := (HC.out j hjl).1
        cases hq : noN l[j] with
        | true =>
          have hk6 : ((l[j].k : Int) == 6) = true := by
            unfold noN at hq
            rw [beq_iff_eq] at hq ⊢
            omega
          have hinv2 : Hid (∀ q (hj : q < l.length), j ≤ q → noN l[q] = true) := Lib.hid fun q hq1 hq2 => by
            by_cases e : q = j
            · subst e; exact hq
            · exact hinv.out q hq1 (by omega)
          clear hq hinv hfin
          generalize l[j].k = K at *
          go_wp2_with fail
          go_step3
          refine ⟨rfl, ⟨rfl, _, j, _, _, _, _, _, _, _, _, _, _, _, _, _, _, _, _, _, _, rfl, rfl, by omega, hinv2⟩, ?_⟩
          simp [intOf]
        | false =>
          have hk6 : ((l[j].k : Int) == 6) = false := by
            unfold noN at hq
            rw [beq_eq_false_iff_ne] at hq ⊢
            omega
          have hm0 : Hid (m = j + 1) := Lib.hid (by rw [← HM.out, ← hfin.out, wn_stop hjl hq, List.length_take]; omega)
          clear hq hinv hfin
          generalize l[j].k = K at *
          go_wp2_with fail
          simp only [Exit.jump]
          go_ret
          obtain rfl := hm0.out
          exact ⟨rfl, rfl⟩
    · intro hpass
      go_wp2_with fail
      go_step3
      rename_i hK
      exact hK _ _ (hpass.out _ _ ⟨rfl, _, n, _, _, _, _, _, _, _, _, _, _, _, _, _, _, _, _, _, _, rfl, rfl, Nat.le_refl _, fun q hq1 hq2 => by have := HN.out; omega⟩)
end Go.Proofs.YthmlggglemnfgaaDoor
