/-
  The walk of TokenNumbers.
-/
import Derived.Test.YtpmmmmfaaimmfaaDoorTkDigits
namespace Nwl
open Go
def hexN (k : Nat) : UInt8 := [48, 49, 50, 51, 52, 53, 54, 55, 56, 57, 97, 98, 99, 100, 101, 102].getD k 0
theorem hex_cut (k : Nat) (hk : k < 16) : (⟨#[48, 49, 50, 51, 52, 53, 54, 55, 56, 57, 97, 98, 99, 100, 101, 102]⟩ : ByteArray).extract k (k + 1) = tx [hexN k] := by
  match k, hk with
  | 0, _ | 1, _ | 2, _ | 3, _ | 4, _ | 5, _ | 6, _ | 7, _ | 8, _ | 9, _ | 10, _ | 11, _ | 12, _ | 13, _ | 14, _ | 15, _ => apply bs_inj; rw [bs_extract, bs_tx]; rfl
  | k + 16, h => omega
theorem tl_tx (l : List UInt8) : (tx l).toList = l := by
  rw [ByteArray.toList_eq]; exact bs_tx l
theorem hexN_all : ∀ k, k < 16 → digV 16 (hexN k) = some k ∧ hexN k ≠ 59 := by decide
def HexInv (n v : Nat) (H : List UInt8) : Prop := valF 16 v H = some n ∧ H.length ≤ 6 ∧ v < 16 ^ (6 - H.length) ∧ 59 ∉ H
theorem hexInv_start {n : Nat} (h : n < 1200000) : HexInv n n [] := ⟨rfl, by simp, by simp; omega, by simp⟩
theorem hexInv_step {n v : Nat} {H : List UInt8} (h : HexInv n v H) (hgo : 0 < v ∨ H = []) : HexInv n (v / 16) (hexN (v % 16) :: H) := by
  obtain ⟨h1, h2, h3, h4⟩ := h
  have h6 : H.length < 6 := by
    rcases hgo with h | h
    · apply Classical.byContradiction
      intro hn
      have : 6 - H.length = 0 := by omega
      rw [this] at h3
      omega
    · subst h; simp
  obtain ⟨d1, d2⟩ := hexN_all (v % 16) (by omega)
  refine ⟨?_, by rw [List.length_cons]; omega, ?_, ?_⟩
  · rw [valF_digit d1, ← h1]
    congr 1; omega
  · rw [List.length_cons]
    have e : 6 - H.length = 6 - (H.length + 1) + 1 := by omega
    rw [e, Nat.pow_succ] at h3
    omega
  · intro hm
    rcases List.mem_cons.1 hm with e | e
    · exact d2 e.symm
    · exact h4 e
theorem hexInv_end {n : Nat} {H : List UInt8} (h : HexInv n 0 H) (hne : H ≠ []) : numL 16 H = if mayI n then some n else none := by
  obtain ⟨h1, h2, h3, h4⟩ := h
  unfold numL
  rw [if_neg (by rintro (e | e); exact hne e; omega), h1]
theorem numL_dec {v : Nat} (h : v < 1200000) : numL 10 (decF 7 v) = if v < 1000000 then (if mayI v then some v else none) else none := by
  unfold numL
  by_cases hv : v < 1000000
  · have := decF_len 7 6 v (by omega) (by omega)
    rw [if_neg (by rintro (e | e); exact decF_ne 7 v (by omega) e; omega), decF_val 7 v (by omega) (by omega), if_pos hv]
  · have := decF_long 7 6 v (by omega) (by omega)
    rw [if_pos (Or.inr (by omega)), if_neg hv]
theorem cut_semi : ∀ (l : List UInt8), 59 ∉ l → cutL [59] (l ++ [59]) = some (l, [])
  | [], _ => rfl
  | c :: l, h => by
    rw [List.cons_append, cutL_cons, if_neg (by intro e; exact h (by simp [e])), cut_semi l (fun hm => h (List.mem_cons_of_mem _ hm))]
    rfl
theorem charL_hex (H : List UInt8) : charL (35 :: 120 :: H) = numL 16 H := by
  unfold charL
  simp [Lib.hasPrefix]
theorem charL_dec (D : List UInt8) (h : ∀ c ∈ D, 48 ≤ c.toNat ∧ c.toNat ≤ 57) : charL (35 :: D) = numL 10 D := by
  unfold charL
  have : Lib.hasPrefix (35 :: D) [35, 120] = false := by
    cases D with
    | nil => rfl
    | cons c r =>
      have hc := h c (by simp)
      have : ¬ (120 : UInt8) = c := by
        intro e; subst e
        exact absurd hc.2 (by decide)
      simp [Lib.hasPrefix, List.isPrefixOf, this]
  rw [this]
  simp [Lib.hasPrefix]
def encO : Option Nat → Option (List UInt8)
  | none => none
  | some v => some (Lib.encodeRune (v : Int))
theorem ent_one (b : List UInt8) (h : 59 ∉ b) : entL (38 :: (b ++ [59])) = encO (charL b) := by
  rw [entL_amp, entAt, cut_semi b h]
  cases hc : charL b with
  | none => simp [hc, encO]
  | some v => simp [entL_nil, hc, encO]
theorem ent_hex {H : List UInt8} (h : 59 ∉ H) : entL (38 :: 35 :: 120 :: (H ++ [59])) = encO (numL 16 H) := by
  rw [← charL_hex]
  exact ent_one (35 :: 120 :: H) (by simp [h])
theorem ent_dec (k v : Nat) : entL (38 :: 35 :: (decF k v ++ [59])) = encO (numL 10 (decF k v)) := by
  have hd := decF_dig k v
  rw [← charL_dec _ hd]
  refine ent_one (35 :: decF k v) ?_
  intro hm
  rcases List.mem_cons.1 hm with e | e
  · cases e
  · exact absurd (hd _ e).2 (by decide)
theorem runes_one (s : ByteArray) (v k : Nat) (hd : Utf8.decode s 0 = (v, k)) (hk : k = s.size) (h0 : 0 < k) : Conv.runesFrom s s.size 0 #[] = #[.int .i32 (v : Int)] := by
  obtain ⟨m, hm⟩ : ∃ m, s.size = m + 1 := ⟨s.size - 1, by omega⟩
  rw [hm]
  unfold Conv.runesFrom
  rw [if_pos (by omega), hd]
  simp only []
  cases m with
  | zero => rfl
  | succ m =>
    unfold Conv.runesFrom
    rw [if_neg (by omega)]
    rfl
theorem decode1 {a : UInt8} {x : Nat} (ha : a.toNat = x) (h : x < 128) : Utf8.decode ⟨#[a]⟩ 0 = (x, 1) := by
  unfold Utf8.decode
  have g0 : (⟨#[a]⟩ : ByteArray).get! (0 + 0) = a := rfl
  simp only [g0, ha]
  rw [if_pos h]
theorem decode2 {a b : UInt8} {x y : Nat} (ha : a.toNat = x) (hb : b.toNat = y) (h1 : x / 32 = 6) (h2 : y / 64 = 2) (hc : 128 ≤ x % 32 * 64 + y % 64) : Utf8.decode ⟨#[a, b]⟩ 0 = (x % 32 * 64 + y % 64, 2) := by
  unfold Utf8.decode
  have g0 : (⟨#[a, b]⟩ : ByteArray).get! (0 + 0) = a := rfl
  have g1 : (⟨#[a, b]⟩ : ByteArray).get! (0 + 1) = b := rfl
  have sz : (⟨#[a, b]⟩ : ByteArray).size = 2 := rfl
  simp only [g0, g1, sz, ha, hb]
  rw [if_neg (by omega), if_pos (by simp [h1, h2]), if_pos hc]
theorem decode3 {a b c : UInt8} {x y z : Nat} (ha : a.toNat = x) (hb : b.toNat = y) (hz : c.toNat = z) (h1 : x / 16 = 14) (h2 : y / 64 = 2) (h3 : z / 64 = 2)
    (hc : 2048 ≤ x % 16 * 4096 + y % 64 * 64 + z % 64) (hv : Utf8.valid (x % 16 * 4096 + y % 64 * 64 + z % 64) = true) : Utf8.decode ⟨#[a, b, c]⟩ 0 = (x % 16 * 4096 + y % 64 * 64 + z % 64, 3) := by
  unfold Utf8.decode
  have g0 : (⟨#[a, b, c]⟩ : ByteArray).get! (0 + 0) = a := rfl
  have g1 : (⟨#[a, b, c]⟩ : ByteArray).get! (0 + 1) = b := rfl
  have g2 : (⟨#[a, b, c]⟩ : ByteArray).get! (0 + 2) = c := rfl
  have sz : (⟨#[a, b, c]⟩ : ByteArray).size = 3 := rfl
  simp only [g0, g1, g2, sz, ha, hb, hz]
  rw [if_neg (by omega), if_neg (by simp; omega), if_pos (by simp [h1, h2, h3]), if_pos (by simp [hv]; omega)]
theorem decode4 {a b c d : UInt8} {x y z u : Nat} (ha : a.toNat = x) (hb : b.toNat = y) (hz : c.toNat = z) (hu : d.toNat = u) (h1 : x / 8 = 30) (h2 : y / 64 = 2) (h3 : z / 64 = 2) (h4 : u / 64 = 2)
    (hc : 65536 ≤ x % 8 * 262144 + y % 64 * 4096 + z % 64 * 64 + u % 64) (hv : Utf8.valid (x % 8 * 262144 + y % 64 * 4096 + z % 64 * 64 + u % 64) = true) : Utf8.decode ⟨#[a, b, c, d]⟩ 0 = (x % 8 * 262144 + y % 64 * 4096 + z % 64 * 64 + u % 64, 4) := by
  unfold Utf8.decode
  have g0 : (⟨#[a, b, c, d]⟩ : ByteArray).get! (0 + 0) = a := rfl
  have g1 : (⟨#[a, b, c, d]⟩ : ByteArray).get! (0 + 1) = b := rfl
  have g2 : (⟨#[a, b, c, d]⟩ : ByteArray).get! (0 + 2) = c := rfl
  have g3 : (⟨#[a, b, c, d]⟩ : ByteArray).get! (0 + 3) = d := rfl
  have sz : (⟨#[a, b, c, d]⟩ : ByteArray).size = 4 := rfl
  simp only [g0, g1, g2, g3, sz, ha, hb, hz, hu]
  rw [if_neg (by omega), if_neg (by simp; omega), if_neg (by simp; omega), if_pos (by simp [h1, h2, h3, h4]), if_pos (by simp [hv]; omega)]
theorem runes_enc (v : Nat) (h : mayI v = true) : Conv.runesFrom (tx (Lib.encodeRune (v : Int))) (tx (Lib.encodeRune (v : Int))).size 0 #[] = #[.int .i32 (v : Int)] := by
  have hle := mayI_le h
  have hsur : v < 55296 ∨ 57343 < v := by
    simp [mayI] at h
    omega
  unfold Lib.encodeRune
  by_cases c1 : v ≤ 127
  · rw [Lib.encodeRuneZ_one (by omega) (by omega)]
    have e : (v : Int).toNat = v := by omega
    simp only [List.map_cons, List.map_nil, e]
    exact runes_one _ v 1 (decode1 (u8n v (by omega)) (by omega)) rfl (by omega)
  by_cases c2 : v ≤ 2047
  · rw [Lib.encodeRuneZ_two (by omega) (by omega)]
    have e1 : (192 + (v : Int) / 64).toNat = 192 + v / 64 := by omega
    have e2 : (128 + (v : Int) % 64).toNat = 128 + v % 64 := by omega
    simp only [List.map_cons, List.map_nil, e1, e2]
    have hd := decode2 (u8n (192 + v / 64) (by omega)) (u8n (128 + v % 64) (by omega)) (by omega) (by omega) (by omega)
    have ev : (192 + v / 64) % 32 * 64 + (128 + v % 64) % 64 = v := by omega
    rw [ev] at hd
    exact runes_one _ v 2 hd rfl (by omega)
  by_cases c3 : v ≤ 65535
  · rw [Lib.encodeRuneZ_three (by omega)]
    have e1 : (224 + (v : Int) / 4096).toNat = 224 + v / 4096 := by omega
    have e2 : (128 + (v : Int) / 64 % 64).toNat = 128 + v / 64 % 64 := by omega
    have e3 : (128 + (v : Int) % 64).toNat = 128 + v % 64 := by omega
    simp only [List.map_cons, List.map_nil, e1, e2, e3]
    have ev : (224 + v / 4096) % 16 * 4096 + (128 + v / 64 % 64) % 64 * 64 + (128 + v % 64) % 64 = v := by omega
    have hd := decode3 (u8n (224 + v / 4096) (by omega)) (u8n (128 + v / 64 % 64) (by omega)) (u8n (128 + v % 64) (by omega)) (by omega) (by omega) (by omega) (by omega) (by refine Eq.trans (congrArg Utf8.valid (show _ = (v : Int) by omega)) ?_; simp [Utf8.valid]; omega)
    rw [ev] at hd
    exact runes_one _ v 3 hd rfl (by omega)
  · rw [Lib.encodeRuneZ_four (by omega) (by omega)]
    have e0 : (240 + (v : Int) / 262144).toNat = 240 + v / 262144 := by omega
    have e1 : (128 + (v : Int) / 4096 % 64).toNat = 128 + v / 4096 % 64 := by omega
    have e2 : (128 + (v : Int) / 64 % 64).toNat = 128 + v / 64 % 64 := by omega
    have e3 : (128 + (v : Int) % 64).toNat = 128 + v % 64 := by omega
    simp only [List.map_cons, List.map_nil, e0, e1, e2, e3]
    have ev : (240 + v / 262144) % 8 * 262144 + (128 + v / 4096 % 64) % 64 * 4096 + (128 + v / 64 % 64) % 64 * 64 + (128 + v % 64) % 64 = v := by omega
    have hd := decode4 (u8n (240 + v / 262144) (by omega)) (u8n (128 + v / 4096 % 64) (by omega)) (u8n (128 + v / 64 % 64) (by omega)) (u8n (128 + v % 64) (by omega)) (by omega) (by omega) (by omega) (by omega) (by omega) (by refine Eq.trans (congrArg Utf8.valid (show _ = (v : Int) by omega)) ?_; simp [Utf8.valid]; omega)
    rw [ev] at hd
    exact runes_one _ v 4 hd rfl (by omega)
end Nwl
namespace Go.Proofs.YtpmmmmfaaimmfaaDoor
open Nwl
open Go.RowKit Go.Maps
set_option linter.unusedVariables false

theorem runes_run (W : World) (s : ByteArray) (z : Int) (h : Conv.runesFrom s s.size 0 #[] = #[.int .i32 z]) : ∃ (c : Nat) (W' : World),
    (convert 9 40 (.string s)).run Tryd.prog W = .ok (.slice (some ⟨W.heap.size, 0, none⟩) 1 c) W' ∧ W'.cell? ⟨W.heap.size, 0, none⟩ = some (.int .i32 z) ∧ W.heap.size < W'.heap.size ∧ Below W.heap.size W W' := by
  have := run_runes_of_string (P := Tryd.prog) W 9 40 21 s Tryd.underlying9 Tryd.underlying40 Tryd.underlying21 (by rw [h]; simp)
  rw [h] at this
  refine ⟨_, _, this, ?_, ?_, ((Below.refl _ _).drew).alloc (Nat.le_refl _) _⟩
  · have e := (Blk.new W.drew 21 (#[.int .i32 z] ++ Array.replicate (grownCap W #[Value.int .i32 z].size 0 21 - #[Value.int .i32 z].size) (.int .i32 0))).cell 0
    refine Eq.trans e ?_
    rw [Array.getElem?_append_left (by simp)]
    rfl
  · show W.heap.size < (W.heap.push _).size
    simp

set_option maxRecDepth 100000 in
set_option maxHeartbeats 4000000 in
theorem TokenNumbers_walk (a : Int) (w : World) (ha : (Lit.int .i64 a).wf = true) (hg : Glob w) :
    Calls Tryd.prog 4 #[.int .i64 a] w fun e w' => e = .returned (.bool true) ∧ Below w.heap.size w w' := by
  have HG := Lib.hid hg
  obtain ⟨x0, x1⟩ := idx_in a 1200000 (by decide) (by decide)
  obtain ⟨n, hn⟩ : ∃ x : Nat, wrap64 ((IntKind.u64.wrap a).tmod 1200000) = (x : Int) := ⟨(wrap64 ((IntKind.u64.wrap a).tmod 1200000)).toNat, by omega⟩
  have hn12 : n < 1200000 := by omega
  clear hg ha x0 x1
  go_enter Tryd.func4, Tryd.ntmps4
  go_wp2_with fail
  rw [hn]
  clear hn
  go_loopw [3, 4] (fun hv vv wr => ∃ (v : Nat) (H : List UInt8), v < 1200000 ∧ hv = .string (tx H) ∧ vv = .int .i64 v ∧ Hid (HexInv n v H ∧ Below w.heap.size w wr)) (fun hv vv _ => (intOf vv).toNat + (1 - strLen hv))
  case atStart => exact ⟨n, [], hn12, rfl, rfl, hexInv_start hn12, Below.refl _ _⟩
  case round =>
    obtain ⟨v, H, hv12, rfl, rfl, hh⟩ := hrel
    obtain ⟨hex, hbel⟩ := hh.out
    clear hh
    have HB := Lib.hid hbel
    have HE := Lib.hid hex
    have hH6 : (tx H).size ≤ 6 := by rw [tx_size]; exact hex.2.1
    by_cases hgo : 0 < v ∨ H = []
    · have HE2 := Lib.hid (hexInv_step hex hgo)
      have hcut := hex_cut (v % 16) (by omega)
      have hcs : ((⟨#[48, 49, 50, 51, 52, 53, 54, 55, 56, 57, 97, 98, 99, 100, 101, 102]⟩ : ByteArray).extract (v % 16) (v % 16 + 1)).size = 1 := by rw [hcut, tx_size]; rfl
      have hc1 : (tx [hexN (v % 16)]).size = 1 := by rw [tx_size]; rfl
      clear hex hbel
      by_cases hv0 : 0 < v
      · go_wp2_with fail
        go_roundw
        case rel => exact ⟨v / 16, hexN (v % 16) :: H, by omega, by rw [tx_append]; rfl, by go_num, HE2.out, HB.out⟩
        case measure => simp [intOf, strLen]; omega
      · obtain rfl : H = [] := by rcases hgo with h | h; exact absurd h hv0; exact h
        obtain rfl : v = 0 := by omega
        have hem : (tx []).toList.isEmpty = true := by rw [tl_tx]; rfl
        go_wp2_with fail
        go_roundw
        case rel => exact ⟨0 / 16, hexN (0 % 16) :: [], by omega, by rw [tx_append]; rfl, by go_num, HE2.out, HB.out⟩
        case measure =>
          have ht0 : (tx []).size = 0 := rfl
          simp [intOf, strLen, ht0, hc1]
    · obtain rfl : v = 0 := by omega
      have hne : H ≠ [] := fun h => hgo (Or.inr h)
      have HN : Hid (numL 16 H = if mayI n then some n else none) := Lib.hid (hexInv_end hex hne)
      have H59 : Hid (59 ∉ H) := Lib.hid hex.2.2.2
      have hem : (tx H).toList.isEmpty = false := by
        rw [tl_tx]
        cases H with
        | nil => exact absurd rfl hne
        | cons c r => rfl
      have hHl : H.length ≤ 6 := hex.2.1
      clear hex hbel HE hgo
      go_wp2_with fail
      refine (Digits_c 7 n wr (by omega) (by omega) (by omega)).mono ?_
      rintro e w2 ⟨rfl, hb2⟩
      have HB2 : Hid (Below w.heap.size w w2) := Lib.hid (HB.out.trans (hb2.mono HB.out.size))
      have hD7 : (decF 7 n).length ≤ 7 := decF_le 7 n
      have hDs : (tx (decF 7 n)).size = (decF 7 n).length := tx_size _
      have HDL : Hid ((decF 7 n).length ≤ 6 ↔ n < 1000000) := Lib.hid ⟨fun h => Classical.byContradiction fun hn => by have := decF_long 7 6 n (by omega) (by omega); omega, fun h => decF_len 7 6 n (by omega) (by omega)⟩
      have HD0 : Hid (entL (38 :: 35 :: (decF 7 n ++ [59])) = encO (if n < 1000000 then (if mayI n then some n else none) else none)) := Lib.hid (by rw [ent_dec, numL_dec hn12])
      have HX0 : Hid (entL (38 :: 35 :: 120 :: (H ++ [59])) = encO (if mayI n then some n else none)) := Lib.hid (by rw [ent_hex H59.out, HN.out])
      clear hb2
      generalize decF 7 n = D at *
      have hcat1 : (⟨#[38, 35]⟩ : ByteArray) ++ tx D ++ ⟨#[59]⟩ = tx (38 :: 35 :: (D ++ [59])) := by
        have e1 : (⟨#[38, 35]⟩ : ByteArray) = tx [38, 35] := rfl
        have e2 : (⟨#[59]⟩ : ByteArray) = tx [59] := rfl
        rw [e1, e2, tx_append, tx_append]; rfl
      have hcat2 : (⟨#[38, 35, 120]⟩ : ByteArray) ++ tx H ++ ⟨#[59]⟩ = tx (38 :: 35 :: 120 :: (H ++ [59])) := by
        have e1 : (⟨#[38, 35, 120]⟩ : ByteArray) = tx [38, 35, 120] := rfl
        have e2 : (⟨#[59]⟩ : ByteArray) = tx [59] := rfl
        rw [e1, e2, tx_append, tx_append]; rfl
      have h7 : (tx D).size ≤ 7 := by omega
      have H6 : Hid ((tx D).size ≤ 6 ↔ n < 1000000) := Lib.hid (by rw [hDs]; exact HDL.out)
      have HR : Hid (mayI n = true → Conv.runesFrom (tx (Lib.encodeRune (n : Int))) (tx (Lib.encodeRune (n : Int))).size 0 #[] = #[.int .i32 (n : Int)]) := Lib.hid (runes_enc n)
      have HZ0 : Hid (∀ z : Int, (n : Int) = z → ((n < 1000000) ↔ z < 1000000)) := Lib.hid (fun z h => by omega)
      have HD1 : Hid (entL (38 :: 35 :: (D ++ [59])) = if n < 1000000 then (if mayI n then some (Lib.encodeRune (n : Int)) else none) else none) := Lib.hid (by rw [HD0.out]; split <;> (try split) <;> rfl)
      have HX1 : Hid (entL (38 :: 35 :: 120 :: (H ++ [59])) = if mayI n then some (Lib.encodeRune (n : Int)) else none) := Lib.hid (by rw [HX0.out]; split <;> rfl)
      clear HDL HD0 HX0 HN
      have HZ : ∃ z : Int, z = (n : Int) := ⟨_, rfl⟩
      obtain ⟨z, hz⟩ := HZ
      rw [← hz] at HR HD1 HX1 ⊢
      have hz0 : 0 ≤ z := by omega
      have hz1 : z < 1200000 := by omega
      have H6z : Hid ((tx D).size ≤ 6 ↔ z < 1000000) := Lib.hid (by rw [H6.out]; exact HZ0.out z hz.symm)
      have HD2 : Hid (entL (38 :: 35 :: (D ++ [59])) = if z < 1000000 then (if mayI z then some (Lib.encodeRune z) else none) else none) := Lib.hid (by rw [HD1.out]; simp only [HZ0.out z hz.symm])
      clear hz HD1 H6 HZ0 hn12
      by_cases hm : mayI z = true
      · have HX : Hid (entL (38 :: 35 :: 120 :: (H ++ [59])) = some (Lib.encodeRune z)) := Lib.hid (by rw [HX1.out, if_pos hm])
        have HR2 := Lib.hid (HR.out hm)
        have hcs : (32 ≤ z ∧ z < 55296) ∨ (57343 < z ∧ z < 1000000) ∨ (1000000 ≤ z ∧ z ≤ 1114111) ∨ z = 9 ∨ z = 10 ∨ z = 13 := by
          simp [mayI] at hm
          omega
        have HD3 : Hid (entL (38 :: 35 :: (D ++ [59])) = if z < 1000000 then some (Lib.encodeRune z) else none) := Lib.hid (by rw [HD2.out, if_pos hm])
        clear HD2 HX1 HR hm
        by_cases hbig : z < 1000000
        · have HD : Hid (entL (38 :: 35 :: (D ++ [59])) = some (Lib.encodeRune z)) := Lib.hid (by rw [HD3.out, if_pos hbig])
          have h6 : (tx D).size ≤ 6 := H6z.out.2 hbig
          clear HD3 H6z
          generalize hE : Lib.encodeRune z = E at *
          go_wp2_with fail
          refine (Calls_arg hcat1 (Entities_at _ w2 (by simp; omega) (HG.out.below HB2.out))).mono ?_
          rintro e w3 ⟨rfl, hb3⟩
          rw [HD.out]
          have HB3 : Hid (Below w.heap.size w w3) := Lib.hid (HB2.out.trans (hb3.mono HB2.out.size))
          clear hb3
          go_wp2_with fail
          refine (Calls_arg hcat2 (Entities_at _ w3 (by simp; omega) (HG.out.below HB3.out))).mono ?_
          rintro e w4 ⟨rfl, hb4⟩
          rw [HX.out]
          have HB4 : Hid (Below w.heap.size w w4) := Lib.hid (HB3.out.trans (hb4.mono HB3.out.size))
          clear hb4
          obtain ⟨c5, W5, q1, q2, q3, q4⟩ := runes_run w4 (entS (some E)) z HR2.out
          have HB5 : Hid (Below w.heap.size w W5) := Lib.hid (HB4.out.trans (q4.mono HB4.out.size))
          clear q4
          clear hE
          rcases hcs with ⟨h, h'⟩ | ⟨h, h'⟩ | ⟨h, h'⟩ | h | h | h
          · go_wp2_with (go_at_call 12; refine (awake_c _ (HG.out.below HB5.out)).mono ?_; rintro e w6 ⟨rfl, hb6⟩; have q6 := (hb6.cell (p := ⟨w4.heap.size, 0, none⟩) q3).trans q2)
            all_goals go_ret
            all_goals exact ⟨ret_bool (by simp), HB5.out.trans (hb6.mono HB5.out.size)⟩
          · go_wp2_with (go_at_call 12; refine (awake_c _ (HG.out.below HB5.out)).mono ?_; rintro e w6 ⟨rfl, hb6⟩; have q6 := (hb6.cell (p := ⟨w4.heap.size, 0, none⟩) q3).trans q2)
            all_goals go_ret
            all_goals exact ⟨ret_bool (by simp), HB5.out.trans (hb6.mono HB5.out.size)⟩
          · omega
          · subst h
            go_wp2_with (go_at_call 12; refine (awake_c _ (HG.out.below HB5.out)).mono ?_; rintro e w6 ⟨rfl, hb6⟩; have q6 := (hb6.cell (p := ⟨w4.heap.size, 0, none⟩) q3).trans q2)
            all_goals go_ret
            all_goals exact ⟨ret_bool (by simp), HB5.out.trans (hb6.mono HB5.out.size)⟩
          · subst h
            go_wp2_with (go_at_call 12; refine (awake_c _ (HG.out.below HB5.out)).mono ?_; rintro e w6 ⟨rfl, hb6⟩; have q6 := (hb6.cell (p := ⟨w4.heap.size, 0, none⟩) q3).trans q2)
            all_goals go_ret
            all_goals exact ⟨ret_bool (by simp), HB5.out.trans (hb6.mono HB5.out.size)⟩
          · subst h
            go_wp2_with (go_at_call 12; refine (awake_c _ (HG.out.below HB5.out)).mono ?_; rintro e w6 ⟨rfl, hb6⟩; have q6 := (hb6.cell (p := ⟨w4.heap.size, 0, none⟩) q3).trans q2)
            all_goals go_ret
            all_goals exact ⟨ret_bool (by simp), HB5.out.trans (hb6.mono HB5.out.size)⟩
        · have HD : Hid (entL (38 :: 35 :: (D ++ [59])) = none) := Lib.hid (by rw [HD3.out, if_neg hbig])
          have h6 : 6 < (tx D).size := Classical.byContradiction fun hn => hbig (H6z.out.1 (by omega))
          clear HD3 H6z
          generalize hE : Lib.encodeRune z = E at *
          clear hE
          go_wp2_with fail
          refine (Calls_arg hcat1 (Entities_at _ w2 (by simp; omega) (HG.out.below HB2.out))).mono ?_
          rintro e w3 ⟨rfl, hb3⟩
          rw [HD.out]
          have HB3 : Hid (Below w.heap.size w w3) := Lib.hid (HB2.out.trans (hb3.mono HB2.out.size))
          clear hb3
          go_wp2_with fail
          refine (Calls_arg hcat2 (Entities_at _ w3 (by simp; omega) (HG.out.below HB3.out))).mono ?_
          rintro e w4 ⟨rfl, hb4⟩
          rw [HX.out]
          have HB4 : Hid (Below w.heap.size w w4) := Lib.hid (HB3.out.trans (hb4.mono HB3.out.size))
          clear hb4
          obtain ⟨c5, W5, q1, q2, q3, q4⟩ := runes_run w4 (entS (some E)) z HR2.out
          have HB5 : Hid (Below w.heap.size w W5) := Lib.hid (HB4.out.trans (q4.mono HB4.out.size))
          clear q4
          have hc1 : 57343 < z := by omega
          have hc2 : z ≤ 1114111 := by omega
          clear hcs
          · go_wp2_with (go_at_call 12; refine (awake_c _ (HG.out.below HB5.out)).mono ?_; rintro e w6 ⟨rfl, hb6⟩; have q6 := (hb6.cell (p := ⟨w4.heap.size, 0, none⟩) q3).trans q2)
            all_goals go_ret
            all_goals exact ⟨ret_bool (by simp), HB5.out.trans (hb6.mono HB5.out.size)⟩
      · have HD : Hid (entL (38 :: 35 :: (D ++ [59])) = none) := Lib.hid (by rw [HD2.out, if_neg hm]; split <;> rfl)
        have HX : Hid (entL (38 :: 35 :: 120 :: (H ++ [59])) = none) := Lib.hid (by rw [HX1.out, if_neg hm])
        have hcs : 1114111 < z ∨ (55296 ≤ z ∧ z ≤ 57343) ∨ (z < 32 ∧ z ≠ 9 ∧ z ≠ 10 ∧ z ≠ 13) := by
          simp [mayI] at hm
          omega
        clear HD2 HX1 HR H6z hm
        go_wp2_with fail
        refine (Calls_arg hcat1 (Entities_at _ w2 (by simp; omega) (HG.out.below HB2.out))).mono ?_
        rintro e w3 ⟨rfl, hb3⟩
        rw [HD.out]
        have HB3 : Hid (Below w.heap.size w w3) := Lib.hid (HB2.out.trans (hb3.mono HB2.out.size))
        clear hb3
        go_wp2_with fail
        refine (Calls_arg hcat2 (Entities_at _ w3 (by simp; omega) (HG.out.below HB3.out))).mono ?_
        rintro e w4 ⟨rfl, hb4⟩
        rw [HX.out]
        have HB4 : Hid (Below w.heap.size w w4) := Lib.hid (HB3.out.trans (hb4.mono HB3.out.size))
        clear hb4
        rcases hcs with h | ⟨h, h'⟩ | ⟨h1, h2, h3, h4⟩
        · go_wp2_with (go_at_call 12; refine (awake_c _ (HG.out.below HB4.out)).mono ?_; rintro e w5 ⟨rfl, hb5⟩)
          all_goals go_ret
          all_goals exact ⟨rfl, HB4.out.trans (hb5.mono HB4.out.size)⟩
        · go_wp2_with (go_at_call 12; refine (awake_c _ (HG.out.below HB4.out)).mono ?_; rintro e w5 ⟨rfl, hb5⟩)
          all_goals go_ret
          all_goals exact ⟨rfl, HB4.out.trans (hb5.mono HB4.out.size)⟩
        · have b2 : (z == 9) = false := by simp; omega
          have b3 : (z == 10) = false := by simp; omega
          have b4 : (z == 13) = false := by simp; omega
          have b5 : decide ((32 : Int) ≤ z) = false := by simp; omega
          clear h2 h3 h4
          go_wp2_with (go_at_call 12; refine (awake_c _ (HG.out.below HB4.out)).mono ?_; rintro e w5 ⟨rfl, hb5⟩)
          all_goals go_ret
          all_goals exact ⟨rfl, HB4.out.trans (hb5.mono HB4.out.size)⟩
end Go.Proofs.YtpmmmmfaaimmfaaDoor
