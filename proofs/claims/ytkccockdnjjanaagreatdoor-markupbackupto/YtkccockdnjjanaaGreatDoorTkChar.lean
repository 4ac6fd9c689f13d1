/-
  Contracts of an entity's character (layer 2).
-/
import Derived.Test.YtkccockdnjjanaaGreatDoorTkBuild
namespace Nwl
/-- what 'character' answers -/
def chI (o : Option Nat) : Int := ((o.getD 0 : Nat) : Int)
def chB (o : Option Nat) : Bool := o.isSome
theorem valF_lt (base : Nat) (hb : base ≤ 16) : ∀ (l : List UInt8) (v k : Nat), v < 16 ^ k → ∀ n, valF base v l = some n → n < 16 ^ (k + l.length)
  | [], v, k, h, n, e => by simp [valF] at e; subst e; simpa using h
  | c :: r, v, k, h, n, e => by
    unfold valF at e
    cases hd : digV base c with
    | none => rw [hd] at e; cases e
    | some d =>
      rw [hd] at e
      simp only [] at e
      have hd16 : d < 16 := by
        have h256 := c.toNat_lt
        unfold digV at hd
        split at hd
        · rename_i h1
          simp [digitI] at h1
          simp at hd; omega
        · split at hd
          · simp at hd; omega
          · split at hd
            · simp at hd; omega
            · cases hd
      have := valF_lt base hb r (v * base + d) (k + 1) (by
        have h1 : v * base ≤ v * 16 := Nat.mul_le_mul_left _ hb
        rw [Nat.pow_succ]; omega) n e
      rw [List.length_cons, show k + (r.length + 1) = k + 1 + r.length from by omega]
      exact this
theorem valF_small {base : Nat} {l : List UInt8} {n : Nat} (hb : base ≤ 16) (hl : l.length ≤ 6) (h : valF base 0 l = some n) : n < 16777216 := by
  have := valF_lt base hb l 0 0 (by simp) n h
  have h2 : 16 ^ (0 + l.length) ≤ 16 ^ 6 := Nat.pow_le_pow_right (by omega) (by omega)
  omega
theorem mayI_le {v : Nat} (h : mayI v = true) : v ≤ 1114111 := by
  simp only [mayI, Bool.and_eq_true, decide_eq_true_eq] at h
  omega
theorem numL_le {base v : Nat} {l : List UInt8} (h : numL base l = some v) : v ≤ 1114111 := by
  unfold numL at h
  split at h
  · cases h
  · cases hv : valF base 0 l with
    | none => rw [hv] at h; cases h
    | some x =>
      rw [hv] at h
      simp only [] at h
      split at h
      · rename_i hm
        simp only [Option.some.injEq] at h
        subst h
        exact mayI_le hm
      · cases h
theorem charL_le {l : List UInt8} {v : Nat} (h : charL l = some v) : v ≤ 1114111 := by
  unfold charL at h
  repeat' (split at h)
  all_goals first | exact numL_le h | (simp only [Option.some.injEq] at h; omega) | cases h
end Nwl
namespace Go.Proofs.YtkccockdnjjanaaGreatDoor
open Nwl
open Go.RowKit
set_option linter.unusedVariables false

/-- what the library's variables hold: some number, some error -/
def Glob (w : World) : Prop := (∃ m : Int, w.cell? ⟨0, 0, none⟩ = some (.int .i64 m)) ∧ (∃ te pe, w.cell? ⟨1, 0, none⟩ = some (.iface te pe))
theorem Glob.below {w w' : World} (h : Glob w) (hb : Below w.heap.size w w') : Glob w' := by
  obtain ⟨⟨m, h1⟩, te, pe, h2⟩ := h
  exact ⟨⟨m, (hb.cell (Lib.lt_of_cell h1)).trans h1⟩, te, pe, (hb.cell (Lib.lt_of_cell h2)).trans h2⟩
theorem Glob.set {w : World} {a : Addr} {s : ByteArray} (h : Glob w) (hc : w.cell? a = some (.string s)) (v : Value) : Glob (w.setCell a v) := by
  obtain ⟨⟨m, h1⟩, te, pe, h2⟩ := h
  refine ⟨⟨m, (World.cell?_setCell_other _ _ _ _ ?_).trans h1⟩, te, pe, (World.cell?_setCell_other _ _ _ _ ?_).trans h2⟩
  · intro e; subst e; rw [hc] at h1; cases h1
  · intro e; subst e; rw [hc] at h2; cases h2
theorem Glob.alloc {w : World} (h : Glob w) (o : Obj) : Glob (w.alloc o) := h.below ((Below.refl _ _).alloc (Nat.le_refl _) _)
theorem Glob.drewN {w : World} (h : Glob w) (n : Nat) : Glob (w.drewN n) := h
theorem below_drewN (w : World) (n : Nat) : ∀ B, Below B w (w.drewN n) := fun B => ⟨rfl, rfl, rfl, Nat.le_refl _, fun _ _ => rfl⟩

theorem toError_c (fn s : ByteArray) (base bits : Int) (w : World) (hlim : s.size ≤ 281474976710656) (hg : Glob w) :
    Calls Tryz.prog 134 #[.string fn, .string s, .int .i64 base, .int .i64 bits, .iface 139 (.int .i64 2)] w fun e w' => ∃ N, e = .returned (.iface 141 (.pointer (some ⟨N, 0, none⟩))) ∧ Below w.heap.size w w' := by
  obtain ⟨_, te, pe, h2⟩ := hg
  exact (Tryz.strconv_toError_syntax fn s base bits _ w hlim h2 (.inr ⟨te, pe, rfl⟩)).mono fun _ _ ⟨N, a, _, _, d⟩ => ⟨N, a, d⟩

theorem empty_of (s : ByteArray) (h : ¬ 0 < s.size) : s = ⟨#[]⟩ := by
  apply bs_inj
  have := bs_length s
  have e : bs s = [] := List.eq_nil_of_length_eq_zero (by omega)
  rw [e]
  rfl

/-- the number of a text, if it is one -/
def puO (base : Nat) (s : ByteArray) : Option Nat := if 0 < s.size then valF base 0 (bs s) else none
theorem pu_any (s : ByteArray) (base : Nat) (hb : base = 10 ∨ base = 16) (w : World) (hs : s.size ≤ 6) :
    Calls Tryz.prog 133 #[.string s, .int .i64 base, .int .i64 32] w fun e w' => e = .returned (puVal 139 (puO base s)) ∧ Below w.heap.size w w' := by
  unfold puO
  by_cases h0 : 0 < s.size
  · rw [if_pos h0]
    rcases hb with rfl | rfl
    · exact pu10_c s w h0 hs
    · exact pu16_c s w h0 hs
  · rw [if_neg h0]
    obtain rfl := empty_of s h0
    exact (Tryz.internal_strconv_ParseUint_empty base 32 w).mono fun _ _ ⟨a, b⟩ => ⟨a, by rw [b]; exact Below.refl _ _⟩

set_option maxHeartbeats 400000 in
theorem ParseUint_ok (s : ByteArray) (base : Nat) (hb : base = 10 ∨ base = 16) (w : World) (hs : s.size ≤ 6) (v : Nat) (hv : puO base s = some v) :
    Calls Tryz.prog 129 #[.string s, .int .i64 base, .int .i64 32] w fun e w' => e = .returned (.tuple #[.int .u64 (v : Int), .nilIface]) ∧ Below w.heap.size w w' := by
  have hp := pu_any s base hb w hs
  rw [hv] at hp
  have HP := Lib.hid hp
  clear hp hv hb
  go_enter Tryz.func129, Tryz.ntmps129
  go_wp2_with (go_at_call 133; refine HP.out.mono ?_; rintro e w' ⟨rfl, hbel⟩; simp only [puVal])
  go_ret2
  exact ⟨rfl, hbel⟩

set_option maxHeartbeats 400000 in
theorem ParseUint_no (s : ByteArray) (base : Nat) (hb : base = 10 ∨ base = 16) (w : World) (hs : s.size ≤ 6) (hg : Glob w) (hv : puO base s = none) :
    Calls Tryz.prog 129 #[.string s, .int .i64 base, .int .i64 32] w fun e w' => (∃ N, e = .returned (.tuple #[.int .u64 0, .iface 141 (.pointer (some ⟨N, 0, none⟩))])) ∧ Below w.heap.size w w' := by
  have hp := pu_any s base hb w hs
  rw [hv] at hp
  have HP := Lib.hid hp
  have HG := Lib.hid hg
  clear hp hv hb hg
  go_enter Tryz.func129, Tryz.ntmps129
  go_wp2_with (first
    | (go_at_call 133; refine HP.out.mono ?_; rintro e w1 ⟨rfl, hbel⟩; simp only [puVal])
    | (go_at_call 134; refine (toError_c _ _ _ _ _ (by omega) (HG.out.below hbel)).mono ?_; rintro e w2 ⟨N, rfl, hbel2⟩))
  go_ret2
  exact ⟨⟨N, rfl⟩, hbel.trans (hbel2.mono hbel.size)⟩

theorem numL_puO (base : Nat) (s : ByteArray) (h : s.size ≤ 6) : numL base (bs s) = match puO base s with | none => none | some v => if mayI v then some v else none := by
  unfold numL puO
  have hl := bs_length s
  by_cases h0 : 0 < s.size
  · have hn : ¬ (bs s = [] ∨ 6 < (bs s).length) := by
      rintro (e | e)
      · rw [e] at hl; simp at hl; omega
      · omega
    simp only [if_neg hn, if_pos h0]
    cases valF base 0 (bs s) <;> rfl
  · have e : bs s = [] := List.eq_nil_of_length_eq_zero (by omega)
    rw [if_pos (.inl e)]
    simp only [if_neg h0]
theorem numL_long (base : Nat) (s : ByteArray) (h : 6 < s.size) : numL base (bs s) = none := by
  unfold numL
  rw [if_pos (.inr (by rw [bs_length]; exact h))]

set_option maxHeartbeats 1000000 in
theorem numbered_c (s : ByteArray) (base : Nat) (hb : base = 10 ∨ base = 16) (w : World) (hs : s.size ≤ maxLen) (hg : Glob w) :
    Calls Tryz.prog 122 #[.string s, .int .i64 base] w fun e w' => e = .returned (.tuple #[.int .i32 (chI (numL base (bs s))), .bool (chB (numL base (bs s)))]) ∧ Below w.heap.size w w' := by
  unfold maxLen at hs
  by_cases h6 : 6 < s.size
  · have hn := Lib.hid (numL_long base s h6)
    go_enter Tryz.func122, Tryz.ntmps122
    go_wp2
    go_ret2
    exact ⟨by rw [hn.out]; rfl, Below.refl _ _⟩
  · have hs6 : s.size ≤ 6 := by omega
    have hn := numL_puO base s hs6
    cases hp : puO base s with
    | none =>
      rw [hp] at hn
      have HN := Lib.hid hn
      have HC := Lib.hid (ParseUint_no s base hb w hs6 hg hp)
      clear hn hp hb hg
      go_enter Tryz.func122, Tryz.ntmps122
      go_wp2_with (go_at_call 129; refine HC.out.mono ?_; rintro e w1 ⟨⟨N, rfl⟩, hbel⟩)
      go_ret2
      exact ⟨by rw [HN.out]; rfl, hbel⟩
    | some v =>
      rw [hp] at hn
      have hv : v < 16777216 := by
        unfold puO at hp
        split at hp
        · exact valF_small (by rcases hb with rfl | rfl <;> decide) (by rw [bs_length]; exact hs6) hp
        · cases hp
      have HC := Lib.hid (ParseUint_ok s base hb w hs6 v hp)
      clear hp hb hg
      cases hm : mayI v with
      | true =>
        simp only [hm, if_true] at hn
        have HN := Lib.hid hn
        clear hn
        go_enter Tryz.func122, Tryz.ntmps122
        go_wp2_with (first
          | (go_at_call 129; refine HC.out.mono ?_; rintro e w1 ⟨rfl, hbel⟩)
          | (go_at_call 130; refine (mayStand_c _ _ (by omega) (by omega)).mono ?_; rintro e w2 ⟨rfl, rfl⟩))
        go_ret2
        exact ⟨by rw [HN.out]; rfl, hbel⟩
      | false =>
        simp only [hm] at hn
        have HN := Lib.hid hn
        clear hn
        go_enter Tryz.func122, Tryz.ntmps122
        go_wp2_with (first
          | (go_at_call 129; refine HC.out.mono ?_; rintro e w1 ⟨rfl, hbel⟩)
          | (go_at_call 130; refine (mayStand_c _ _ (by omega) (by omega)).mono ?_; rintro e w2 ⟨rfl, rfl⟩))
        go_ret2
        exact ⟨by rw [HN.out]; rfl, hbel⟩

theorem CutPrefix_yes (s : ByteArray) (l : List UInt8) (w : World) (h : Lib.hasPrefix (bs s) l = true) :
    Calls Tryz.prog 92 #[.string s, .string ⟨l.toArray⟩] w fun e w' => e = .returned (.tuple #[.string (tx ((bs s).drop l.length)), .bool true]) ∧ w = w' := by
  refine (Tryz.strings_CutPrefix s ⟨l.toArray⟩ w).mono ?_
  rintro e w' ⟨rfl, rfl⟩
  refine ⟨?_, rfl⟩
  have h1 : Lib.hasPrefix s.data.toList l = true := h
  show Ending.returned (.tuple #[.string ⟨(Lib.trimPrefix s.data.toList l).toArray⟩, .bool (Lib.hasPrefix s.data.toList l)]) = _
  rw [Lib.trimPrefix, if_pos h1, h1]
  rfl
theorem CutPrefix_no (s : ByteArray) (l : List UInt8) (w : World) (h : Lib.hasPrefix (bs s) l = false) :
    Calls Tryz.prog 92 #[.string s, .string ⟨l.toArray⟩] w fun e w' => e = .returned (.tuple #[.string s, .bool false]) ∧ w = w' := by
  refine (Tryz.strings_CutPrefix s ⟨l.toArray⟩ w).mono ?_
  rintro e w' ⟨rfl, rfl⟩
  refine ⟨?_, rfl⟩
  have h1 : Lib.hasPrefix s.data.toList l = false := h
  show Ending.returned (.tuple #[.string ⟨(Lib.trimPrefix s.data.toList l).toArray⟩, .bool (Lib.hasPrefix s.data.toList l)]) = _
  rw [Lib.trimPrefix, if_neg (by rw [h1]; decide), h1]

theorem tl_yes {s : ByteArray} {l : List UInt8} (h : bs s = l) : (s.toList == l) = true := by
  rw [ByteArray.toList_eq, beq_iff_eq]; exact h
theorem tl_no {s : ByteArray} {l : List UInt8} (h : ¬ bs s = l) : (s.toList == l) = false := by
  rw [ByteArray.toList_eq, beq_eq_false_iff_ne]; exact h
theorem numbered_at (l : List UInt8) (base : Nat) (hb : base = 10 ∨ base = 16) (w : World) (hs : l.length ≤ 9223372036854775807) (hg : Glob w) :
    Calls Tryz.prog 122 #[.string (tx l), .int .i64 base] w fun e w' => e = .returned (.tuple #[.int .i32 (chI (numL base l)), .bool (chB (numL base l))]) ∧ Below w.heap.size w w' :=
  numbered_c (tx l) base hb w (by rw [tx_size]; exact hs) hg
theorem charL_hash (l : List UInt8) (h1 : ¬ l = [108, 116]) (h2 : ¬ l = [103, 116]) (h3 : ¬ l = [97, 109, 112]) (h4 : ¬ l = [113, 117, 111, 116]) (h5 : ¬ l = [97, 112, 111, 115]) :
    charL l = if Lib.hasPrefix l [35, 120] then numL 16 (l.drop 2) else if Lib.hasPrefix l [35] then numL 10 (l.drop 1) else none := by
  unfold charL
  rw [if_neg h1, if_neg h2, if_neg h3, if_neg h4, if_neg h5]

set_option maxRecDepth 100000 in
set_option maxHeartbeats 1000000 in
theorem character_c (s : ByteArray) (w : World) (hs : s.size ≤ maxLen) (hg : Glob w) :
    Calls Tryz.prog 113 #[.string s] w fun e w' => e = .returned (.tuple #[.int .i32 (chI (charL (bs s))), .bool (chB (charL (bs s)))]) ∧ Below w.heap.size w w' := by
  unfold maxLen at hs
  by_cases h1 : bs s = [108, 116]
  · have b1 := tl_yes h1
    have HN : Hid (charL (bs s) = some 60) := Lib.hid (by rw [h1]; rfl)
    clear h1
    go_enter Tryz.func113, Tryz.ntmps113
    go_wp2_with fail
    go_ret2
    exact ⟨by rw [HN.out]; rfl, Below.refl _ _⟩
  have b1 := tl_no h1
  by_cases h2 : bs s = [103, 116]
  · have b2 := tl_yes h2
    have HN : Hid (charL (bs s) = some 62) := Lib.hid (by rw [h2]; rfl)
    clear h1 h2
    go_enter Tryz.func113, Tryz.ntmps113
    go_wp2_with fail
    go_ret2
    exact ⟨by rw [HN.out]; rfl, Below.refl _ _⟩
  have b2 := tl_no h2
  by_cases h3 : bs s = [97, 109, 112]
  · have b3 := tl_yes h3
    have HN : Hid (charL (bs s) = some 38) := Lib.hid (by rw [h3]; rfl)
    clear h1 h2 h3
    go_enter Tryz.func113, Tryz.ntmps113
    go_wp2_with fail
    go_ret2
    exact ⟨by rw [HN.out]; rfl, Below.refl _ _⟩
  have b3 := tl_no h3
  by_cases h4 : bs s = [113, 117, 111, 116]
  · have b4 := tl_yes h4
    have HN : Hid (charL (bs s) = some 34) := Lib.hid (by rw [h4]; rfl)
    clear h1 h2 h3 h4
    go_enter Tryz.func113, Tryz.ntmps113
    go_wp2_with fail
    go_ret2
    exact ⟨by rw [HN.out]; rfl, Below.refl _ _⟩
  have b4 := tl_no h4
  by_cases h5 : bs s = [97, 112, 111, 115]
  · have b5 := tl_yes h5
    have HN : Hid (charL (bs s) = some 39) := Lib.hid (by rw [h5]; rfl)
    clear h1 h2 h3 h4 h5
    go_enter Tryz.func113, Tryz.ntmps113
    go_wp2_with fail
    go_ret2
    exact ⟨by rw [HN.out]; rfl, Below.refl _ _⟩
  have b5 := tl_no h5
  have hch := charL_hash (bs s) h1 h2 h3 h4 h5
  have HG := Lib.hid hg
  have hbl := bs_length s
  clear h1 h2 h3 h4 h5 hg
  cases hx : Lib.hasPrefix (bs s) [35, 120] with
  | true =>
    rw [if_pos hx] at hch
    have HN := Lib.hid hch
    have HX := Lib.hid hx
    have HL : Hid (((bs s).drop 2).length ≤ 9223372036854775807) := Lib.hid (by rw [List.length_drop]; omega)
    clear hch hx hbl
    go_enter Tryz.func113, Tryz.ntmps113
    go_wp2_with (first
      | (go_at_call 92; refine (CutPrefix_yes _ _ _ HX.out).mono ?_; rintro e w1 ⟨rfl, rfl⟩; simp only [List.length_cons, List.length_nil])
      | (go_at_call 122; refine (numbered_at _ 16 (.inr rfl) _ HL.out HG.out).mono ?_; rintro e w2 ⟨rfl, hbel⟩))
    go_ret2
    exact ⟨by rw [HN.out]; rfl, hbel⟩
  | false =>
    rw [if_neg (by rw [hx]; decide)] at hch
    have HX := Lib.hid hx
    clear hx
    cases hy : Lib.hasPrefix (bs s) [35] with
    | true =>
      rw [if_pos hy, List.drop_one] at hch
      have HN := Lib.hid hch
      have HY := Lib.hid hy
      have HL : Hid ((bs s).tail.length ≤ 9223372036854775807) := Lib.hid (by rw [List.length_tail]; omega)
      clear hch hy hbl
      go_enter Tryz.func113, Tryz.ntmps113
      go_wp2_with fail
      refine (CutPrefix_no _ _ _ HX.out).mono ?_
      rintro e w1 ⟨rfl, rfl⟩
      go_wp2_with fail
      refine (CutPrefix_yes _ _ _ HY.out).mono ?_
      rintro e w1 ⟨rfl, rfl⟩
      simp only [List.length_cons, List.length_nil]
      go_wp2_with (go_at_call 122; refine (numbered_at _ 10 (.inl rfl) _ HL.out HG.out).mono ?_; rintro e w2 ⟨rfl, hbel⟩)
      go_ret2
      exact ⟨by rw [HN.out]; rfl, hbel⟩
    | false =>
      rw [if_neg (by rw [hy]; decide)] at hch
      have HN := Lib.hid hch
      have HY := Lib.hid hy
      clear hch hy hbl
      go_enter Tryz.func113, Tryz.ntmps113
      go_wp2_with fail
      refine (CutPrefix_no _ _ _ HX.out).mono ?_
      rintro e w1 ⟨rfl, rfl⟩
      go_wp2_with fail
      refine (CutPrefix_no _ _ _ HY.out).mono ?_
      rintro e w1 ⟨rfl, rfl⟩
      go_wp2_with fail
      go_ret2
      exact ⟨by rw [HN.out]; rfl, Below.refl _ _⟩

end Go.Proofs.YtkccockdnjjanaaGreatDoor
