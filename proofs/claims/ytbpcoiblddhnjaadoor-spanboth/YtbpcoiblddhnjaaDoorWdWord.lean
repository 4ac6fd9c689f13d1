/-
  Contracts of strings.TrimLeft by noughts, words.number and words.word.
-/
import Derived.Test.YtbpcoiblddhnjaaDoorWdWalk
namespace Nwl
def is0 (c : UInt8) : Bool := c.toNat == 48
def drop0B (s : ByteArray) : ByteArray := tx ((bs s).dropWhile is0)
theorem drop0B_step (s : ByteArray) (h : 0 < s.size) (hc : is0 s[0] = true) : drop0B (s.extract 1 s.size) = drop0B s := by
  unfold drop0B
  rw [bs_from]
  conv => rhs; rw [bs_cons s h]
  rw [List.dropWhile_cons, if_pos hc]
theorem drop0B_end (s : ByteArray) (h : ∀ h : 0 < s.size, is0 s[0] = false) : drop0B s = s := by
  unfold drop0B
  rcases Nat.eq_zero_or_pos s.size with h0 | h0
  · have : bs s = [] := List.eq_nil_of_length_eq_zero (by rw [bs_length]; exact h0)
    rw [this]
    exact bs_inj (by rw [this]; rfl)
  · rw [bs_cons s h0, List.dropWhile_cons, if_neg (by rw [h h0]; decide), ← bs_cons s h0, tx_bs]
theorem numW_eq (s : List UInt8) (d : Bool) : numW s d = if (s.dropWhile is0).isEmpty then ⟨6, []⟩ else if d then ⟨9, s.dropWhile is0⟩ else ⟨10, s.dropWhile is0⟩ := rfl
end Nwl
namespace Go.Proofs.YtbpcoiblddhnjaaDoor
open Nwl
open Go.RowKit Go.Maps
set_option linter.unusedVariables false

/-- a word's value -/
abbrev wdV (r : Wd) : Value := .agg #[.int .i64 (r.k : Nat), .string (tx r.t)]
theorem wdV_mk (k : Nat) (t : List UInt8) (s : ByteArray) (h : s = tx t) : wdV ⟨k, t⟩ = .agg #[.int .i64 k, .string s] := by rw [h]

set_option maxHeartbeats 800000 in
theorem trimLeftByte_c (s : ByteArray) (w : World) (hs : s.size ≤ maxLen) :
    Calls Tryd.prog 68 #[.string s, .int .u8 48] w fun e w' => e = .returned (.string (drop0B s)) ∧ w = w' := by
  unfold maxLen at hs
  go_enter Tryd.func68, Tryd.ntmps68
  go_wp2
  go_loop [0] (fun v => ∃ t : ByteArray, t.size ≤ s.size ∧ v = .string t ∧ Hid (drop0B t = drop0B s)) (fun v => match v with | .string t => t.size | _ => 0)
  case atStart => exact ⟨s, by omega, rfl, rfl⟩
  case round =>
    obtain ⟨t, ht, rfl, hd⟩ := hrel
    by_cases hlt : 0 < t.size
    · cases hc : is0 t[0] with
      | true =>
        have hst : Hid (drop0B (t.extract 1 t.size) = drop0B s) := Lib.hid ((drop0B_step t hlt hc).trans hd.out)
        have hsz : Hid ((t.extract 1 t.size).size = t.size - 1) := Lib.hid (extract_size t 1 t.size (Nat.le_refl _))
        have hcc : ((t[0].toNat : Int) == 48) = true := by
          unfold is0 at hc
          rw [beq_iff_eq] at hc ⊢
          omega
        clear hc
        go_wp2_with fail
        go_round
        case rel => exact ⟨_, by rw [hsz.out]; omega, rfl, hst⟩
        case measure => simp only []; rw [hsz.out]; omega
      | false =>
        have hfin : Hid (t = drop0B s) := Lib.hid ((drop0B_end t fun _ => hc).symm.trans hd.out)
        have hcc : ((t[0].toNat : Int) == 48) = false := by
          unfold is0 at hc
          rw [beq_eq_false_iff_ne] at hc ⊢
          omega
        clear hc hd
        go_wp2_with fail
        go_ret
        exact ⟨ret_str hfin.out, rfl⟩
    · have hfin : Hid (t = drop0B s) := Lib.hid ((drop0B_end t fun h => absurd h hlt).symm.trans hd.out)
      clear hd
      go_wp2_with fail
      go_ret
      exact ⟨ret_str hfin.out, rfl⟩

set_option maxRecDepth 100000 in
set_option maxHeartbeats 800000 in
theorem TrimLeft_c (s : ByteArray) (w : World) (hs : s.size ≤ maxLen) :
    Calls Tryd.prog 105 #[.string s, .string ⟨#[48]⟩] w fun e w' => e = .returned (.string (drop0B s)) ∧ w = w' := by
  by_cases h0 : s.size = 0
  · have he : s.toList = [] := toList_nil_of s h0
    have hd := Lib.hid (drop0B_end s fun h => by omega)
    clear h0
    go_enter Tryd.func105, Tryd.ntmps105
    go_wp2_with fail
    go_ret
    exact ⟨ret_str hd.out.symm, rfl⟩
  · have hne : ¬ s.toList = [] := toList_ne_of s (by omega)
    have hne2 : s.toList.isEmpty = false := by simpa using hne
    go_enter Tryd.func105, Tryd.ntmps105
    go_wp2_with (go_at_call 68; refine (trimLeftByte_c _ _ hs).mono ?_; rintro e w' ⟨rfl, rfl⟩)
    go_ret
    exact ⟨rfl, rfl⟩

set_option maxHeartbeats 1000000 in
theorem number_c (s : ByteArray) (d : Bool) (w : World) (hs : s.size ≤ maxLen) (r : Wd) (hr : numW (bs s) d = r) :
    Calls Tryd.prog 95 #[.string s, .bool d] w fun e w' => e = .returned (wdV r) ∧ Below w.heap.size w w' := by
  rw [numW_eq] at hr
  cases he : ((bs s).dropWhile is0).isEmpty with
  | true =>
    rw [he] at hr
    subst hr
    have hz : (drop0B s).toList = [] := by rw [toList_bs, drop0B, bs_tx]; simpa using he
    clear he
    go_enter Tryd.func95, Tryd.ntmps95
    go_wp2_with (go_at_call 105; refine (TrimLeft_c _ _ hs).mono ?_; rintro e w' ⟨rfl, rfl⟩)
    exact bodyPost_ret (v := .agg #[.int .i64 6, .string ⟨#[]⟩]) (by simp [results, Tryd.results95, go_sem]) rfl ⟨rfl, (Below.refl _ _).alloc (Nat.le_refl _) _⟩
  | false =>
    have hz : ¬ (drop0B s).toList = [] := by rw [toList_bs, drop0B, bs_tx]; simpa using he
    have hz2 : (drop0B s).toList.isEmpty = false := by simpa using hz
    rw [he] at hr
    clear he
    cases d with
    | true =>
      subst hr
      go_enter Tryd.func95, Tryd.ntmps95
      go_wp2_with (go_at_call 105; refine (TrimLeft_c _ _ hs).mono ?_; rintro e w' ⟨rfl, rfl⟩)
      exact bodyPost_ret (v := .agg #[.int .i64 9, .string (drop0B s)]) (by simp [results, Tryd.results95, go_sem]) rfl ⟨rfl, (Below.refl _ _).alloc (Nat.le_refl _) _⟩
    | false =>
      subst hr
      go_enter Tryd.func95, Tryd.ntmps95
      go_wp2_with (go_at_call 105; refine (TrimLeft_c _ _ hs).mono ?_; rintro e w' ⟨rfl, rfl⟩)
      exact bodyPost_ret (v := .agg #[.int .i64 10, .string (drop0B s)]) (by simp [results, Tryd.results95, go_sem]) rfl ⟨rfl, (Below.refl _ _).alloc (Nat.le_refl _) _⟩

theorem wordW_num {s : List UInt8} {d n : Bool} (h : (s.isEmpty || digHd s) = true) : wordW s d n = numW s d := by unfold wordW; rw [if_pos h]
theorem wordW_oth {s : List UInt8} {d n : Bool} (h : (s.isEmpty || digHd s) = false) (hk : kindW s n = 8) : wordW s d n = ⟨8, s⟩ := by unfold wordW; rw [if_neg (by rw [h]; decide), hk]; rfl
theorem wordW_kind {s : List UInt8} {d n : Bool} (h : (s.isEmpty || digHd s) = false) (hk : ¬ kindW s n = 8) : wordW s d n = ⟨kindW s n, []⟩ := by unfold wordW; rw [if_neg (by rw [h]; decide), if_neg (by simpa using hk)]
theorem digHd_bs (s : ByteArray) (h : 0 < s.size) : digHd (bs s) = digitI s[0].toNat := by rw [bs_cons s h]; rfl

/-- a result's box, two cells -/
theorem box_two {w w1 : World} {t : TypeId} {x y : Value} (h : Below (w.alloc (.cells #[x, y] t)).heap.size (w.alloc (.cells #[x, y] t)) w1) : w1.cell? ⟨w.heap.size, 0, none⟩ = some x ∧ w1.cell? ⟨w.heap.size, 1, none⟩ = some y ∧ w1.frozen? ⟨w.heap.size, 0, none⟩ = false ∧ w1.frozen? ⟨w.heap.size, 1, none⟩ = false ∧ Below w.heap.size w w1 := by
  have hb := (Blk.new w t #[x, y]).below h
  exact ⟨hb.cell 0, hb.cell 1, hb.frozen 0, hb.frozen 1, ((Below.refl w.heap.size w).alloc (Nat.le_refl _) _).trans (h.mono (by simp))⟩

set_option maxRecDepth 100000 in
set_option maxHeartbeats 2000000 in
theorem word_num (s : ByteArray) (d n : Bool) (w : World) (hs : s.size ≤ maxLen) (r : Wd) (hr : numW (bs s) d = r) (h0 : s.size = 0 ∨ ∃ h : 0 < s.size, digitI s[0].toNat = true) :
    Calls Tryd.prog 81 #[.string s, .bool d, .bool n] w fun e w' => e = .returned (wdV r) ∧ Below w.heap.size w w' := by
  have HR := Lib.hid hr
  clear hr
  rcases h0 with h0 | ⟨h0, hc⟩
  · have he : s.toList = [] := toList_nil_of s h0
    clear h0
    go_enter Tryd.func81, Tryd.ntmps81
    go_wp2_with fail
    refine (number_c s d _ hs r HR.out).mono ?_
    rintro e w1 ⟨rfl, hb1⟩
    obtain ⟨c0, c1, f0, f1, hbel⟩ := box_two hb1
    have HB := Lib.hid hbel
    clear hb1 hbel
    go_wp2_with fail
    exact bodyPost_ret (v := wdV r) (by simp [results, Tryd.results81, go_sem, c0, c1]) rfl ⟨rfl, (HB.out.setCell (Nat.le_refl _) _).setCell (Nat.le_refl _) _⟩
  · have hne : ¬ s.toList = [] := toList_ne_of s (by omega)
    have hne2 : s.toList.isEmpty = false := by simpa using hne
    go_enter Tryd.func81, Tryd.ntmps81
    go_wp2_with (go_at_call 94; refine (Digit_c _ _).mono ?_; rintro e w' ⟨rfl, rfl⟩)
    refine (number_c s d _ hs r HR.out).mono ?_
    rintro e w1 ⟨rfl, hb1⟩
    obtain ⟨c0, c1, f0, f1, hbel⟩ := box_two hb1
    have HB := Lib.hid hbel
    clear hb1 hbel
    go_wp2_with fail
    exact bodyPost_ret (v := wdV r) (by simp [results, Tryd.results81, go_sem, c0, c1]) rfl ⟨rfl, (HB.out.setCell (Nat.le_refl _) _).setCell (Nat.le_refl _) _⟩

theorem namedKind_b (s : ByteArray) (w : World) (k : Nat) (h : namedK (bs s) = k) :
    Calls Tryd.prog 96 #[.string s] w fun e w' => e = .returned (.int .i64 k) ∧ w = w' := by
  subst h; exact namedKind_c s w

theorem shortKind_b (s : ByteArray) (w : World) (k : Nat) (h : shortK (bs s) = k) :
    Calls Tryd.prog 97 #[.string s] w fun e w' => e = .returned (.int .i64 k) ∧ w = w' := by
  subst h; exact shortKind_c s w

set_option maxRecDepth 100000 in
set_option maxHeartbeats 2000000 in
theorem word_oth (s : ByteArray) (d n : Bool) (w : World) (h0 : 0 < s.size) (hc : digitI s[0].toNat = false) (k1 k2 : Nat) (h1 : namedK (bs s) = k1) (h2 : shortK (bs s) = k2) (hk : kindW (bs s) n = 8) :
    Calls Tryd.prog 81 #[.string s, .bool d, .bool n] w fun e w' => e = .returned (.agg #[.int .i64 8, .string s]) ∧ Below w.heap.size w w' := by
  have hne : ¬ s.toList = [] := toList_ne_of s (by omega)
  have hne2 : s.toList.isEmpty = false := by simpa using hne
  unfold kindW at hk
  rw [h1, h2] at hk
  have H1 := Lib.hid h1
  have H2 := Lib.hid h2
  clear h1 h2
  have hcase : (n = false ∧ k1 = 8) ∨ (n = true ∧ k1 = 8 ∧ k2 = 8) := by
    cases n <;> simp at hk
    · exact .inl ⟨rfl, hk⟩
    · refine .inr ⟨rfl, ?_⟩
      by_cases e : k1 = 8
      · exact ⟨e, by rw [if_pos e] at hk; exact hk⟩
      · rw [if_neg e] at hk; exact absurd hk e
  clear hk
  rcases hcase with ⟨rfl, rfl⟩ | ⟨rfl, rfl, rfl⟩
  all_goals
    go_enter Tryd.func81, Tryd.ntmps81
    go_wp2_with (first
      | (go_at_call 94; refine (Digit_c _ _).mono ?_; rintro e w' ⟨rfl, rfl⟩)
      | (go_at_call 96; refine (namedKind_b _ _ _ H1.out).mono ?_; rintro e w' ⟨rfl, rfl⟩)
      | (go_at_call 97; refine (shortKind_b _ _ _ H2.out).mono ?_; rintro e w' ⟨rfl, rfl⟩))
    exact bodyPost_ret (v := .agg #[.int .i64 8, .string s]) (by simp [results, Tryd.results81, go_sem]) rfl ⟨rfl, (Below.refl _ _).alloc (Nat.le_refl _) _⟩

set_option maxRecDepth 100000 in
set_option maxHeartbeats 2000000 in
theorem word_kind (s : ByteArray) (d n : Bool) (w : World) (h0 : 0 < s.size) (hc : digitI s[0].toNat = false) (k1 k2 k : Nat) (h1 : namedK (bs s) = k1) (h2 : shortK (bs s) = k2) (hk : kindW (bs s) n = k) (hk8 : ¬ k = 8) :
    Calls Tryd.prog 81 #[.string s, .bool d, .bool n] w fun e w' => e = .returned (.agg #[.int .i64 k, .string ⟨#[]⟩]) ∧ Below w.heap.size w w' := by
  have hne : ¬ s.toList = [] := toList_ne_of s (by omega)
  have hne2 : s.toList.isEmpty = false := by simpa using hne
  unfold kindW at hk
  rw [h1, h2] at hk
  have H1 := Lib.hid h1
  have H2 := Lib.hid h2
  clear h1 h2
  have hkb : ((k : Int) == 8) = false := by rw [beq_eq_false_iff_ne]; omega
  have hcase : k1 = k ∨ (n = true ∧ k1 = 8 ∧ k2 = k) := by
    cases n <;> simp at hk
    · exact .inl hk
    · by_cases e : k1 = 8
      · exact .inr ⟨rfl, e, by rw [if_pos e] at hk; exact hk⟩
      · rw [if_neg e] at hk; exact .inl hk
  clear hk hk8
  rcases hcase with rfl | ⟨rfl, rfl, rfl⟩
  · cases n
    all_goals
      go_enter Tryd.func81, Tryd.ntmps81
      go_wp2_with (first
        | (go_at_call 94; refine (Digit_c _ _).mono ?_; rintro e w' ⟨rfl, rfl⟩)
        | (go_at_call 96; refine (namedKind_b _ _ _ H1.out).mono ?_; rintro e w' ⟨rfl, rfl⟩))
      exact bodyPost_ret (v := .agg #[.int .i64 k1, .string ⟨#[]⟩]) (by simp [results, Tryd.results81, go_sem]) rfl ⟨rfl, (Below.refl _ _).alloc (Nat.le_refl _) _⟩
  · go_enter Tryd.func81, Tryd.ntmps81
    go_wp2_with (first
      | (go_at_call 94; refine (Digit_c _ _).mono ?_; rintro e w' ⟨rfl, rfl⟩)
      | (go_at_call 96; refine (namedKind_b _ _ _ H1.out).mono ?_; rintro e w' ⟨rfl, rfl⟩)
      | (go_at_call 97; refine (shortKind_b _ _ _ H2.out).mono ?_; rintro e w' ⟨rfl, rfl⟩))
    exact bodyPost_ret (v := .agg #[.int .i64 k2, .string ⟨#[]⟩]) (by simp [results, Tryd.results81, go_sem]) rfl ⟨rfl, (Below.refl _ _).alloc (Nat.le_refl _) _⟩

theorem word_c (s : ByteArray) (d n : Bool) (w : World) (hs : s.size ≤ maxLen) (r : Wd) (hr : wordW (bs s) d n = r) :
    Calls Tryd.prog 81 #[.string s, .bool d, .bool n] w fun e w' => e = .returned (wdV r) ∧ Below w.heap.size w w' := by
  by_cases h0 : 0 < s.size
  · cases hc : digitI s[0].toNat with
    | true => exact word_num s d n w hs r ((wordW_num (by rw [digHd_bs s h0, hc, Bool.or_true])).symm.trans hr) (.inr ⟨h0, hc⟩)
    | false =>
      have hh : ((bs s).isEmpty || digHd (bs s)) = false := by rw [digHd_bs s h0, hc, bs_cons s h0]; rfl
      by_cases hk : kindW (bs s) n = 8
      · rw [wordW_oth hh hk] at hr
        subst hr
        exact word_oth s d n w h0 hc _ _ rfl rfl hk
      · rw [wordW_kind hh hk] at hr
        subst hr
        exact word_kind s d n w h0 hc _ _ _ rfl rfl rfl hk
  · have hb : bs s = [] := List.eq_nil_of_length_eq_zero (by rw [bs_length]; omega)
    exact word_num s d n w hs r ((wordW_num (by rw [hb]; rfl)).symm.trans hr) (.inl (by omega))
end Go.Proofs.YtbpcoiblddhnjaaDoor
