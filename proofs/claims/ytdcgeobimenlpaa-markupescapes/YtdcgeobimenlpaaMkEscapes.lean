/-
  MarkupEscapes: no sign that begins, or ends, something is left; more text, more escaped; nothing else is turned.
-/
import Derived.Test.YtdcgeobimenlpaaMkAwake
namespace Nwl
def plain8 (c : UInt8) : Bool := c != 38 && (c != 60 && (c != 62 && c != 34))
def plainTo (l : List UInt8) (k : Nat) : Bool := (l.take k).all plain8
theorem plainTo_next {l : List UInt8} {k : Nat} (h : k < l.length) : plainTo l (k + 1) = (plainTo l k && plain8 l[k]) := by
  unfold plainTo
  rw [List.take_succ_eq_append_getElem h, List.all_append]
  simp
theorem esc1_same {c : UInt8} (h : plain8 c = true) : esc1 c = [c] := by
  unfold plain8 at h
  simp at h
  unfold esc1
  rw [if_neg h.1, if_neg h.2.1, if_neg h.2.2.1, if_neg h.2.2.2]
theorem esc1_more {c : UInt8} (h : plain8 c = false) : 2 ≤ (esc1 c).length := by
  unfold plain8 at h
  unfold esc1
  by_cases h1 : c = 38
  · rw [if_pos h1]; simp
  rw [if_neg h1]
  by_cases h2 : c = 60
  · rw [if_pos h2]; simp
  rw [if_neg h2]
  by_cases h3 : c = 62
  · rw [if_pos h3]; simp
  rw [if_neg h3]
  by_cases h4 : c = 34
  · rw [if_pos h4]; simp
  simp [h1, h2, h3, h4] at h
theorem escL_ge : ∀ l : List UInt8, l.length ≤ (escL l).length
  | [] => Nat.le_refl _
  | c :: r => by
    have := escL_ge r
    have := (esc1_len c).1
    rw [escL, List.length_append, List.length_cons]
    omega
theorem escL_same : ∀ l : List UInt8, (escL l = l) ↔ l.all plain8 = true
  | [] => by simp [escL]
  | c :: r => by
    cases hc : plain8 c with
    | true =>
      rw [escL, esc1_same hc]
      simp only [List.singleton_append, List.cons.injEq, true_and, List.all_cons, hc, Bool.true_and]
      exact escL_same r
    | false =>
      simp only [List.all_cons, hc, Bool.false_and]
      constructor
      · intro h
        have h1 := congrArg List.length h
        have h2 := escL_ge r
        have h3 := esc1_more hc
        rw [escL, List.length_append, List.length_cons] at h1
        omega
      · intro h
        cases h
theorem escL_ok {l : List UInt8} (k : Nat) (h : k < (escL l).length) : (escL l)[k] ≠ 60 ∧ (escL l)[k] ≠ 62 ∧ (escL l)[k] ≠ 34 := by
  have hm := List.getElem_mem h
  rcases esc_mem hm with ⟨_, _, h1, h2, h3⟩ | hm
  · exact ⟨h1, h2, h3⟩
  · have : ∀ d ∈ ([38, 97, 109, 112, 59, 108, 116, 103, 113, 117, 111] : List UInt8), d ≠ 60 ∧ d ≠ 62 ∧ d ≠ 34 := by decide
    exact this _ hm
end Nwl
namespace Go.Proofs.Ytdcgeobimenlpaa
open Nwl
open Go.RowKit Go.Maps
set_option linter.unusedVariables false
theorem tx_app (a b : List UInt8) : tx a ++ tx b = tx (a ++ b) := by
  have h := bs_append (tx a) (tx b)
  rw [bs_tx, bs_tx] at h
  rw [← h, tx_bs]

set_option maxRecDepth 100000 in
set_option maxHeartbeats 4000000 in
theorem MarkupEscapes_walk (a b : ByteArray) (w : World) (ha : a.size ≤ maxLen) (hb : b.size ≤ maxLen) :
    Calls Try.prog 4 #[.string a, .string b] w fun e w' => e = .returned (.bool true) ∧ Below w.heap.size w w' := by
  unfold maxLen at ha hb
  by_cases h1 : 500 < a.size
  · go_enter Try.func4, Try.ntmps4
    go_wp2_with (go_at_call 6; refine (awake4_c _).mono ?_; rintro e w' ⟨rfl, hb⟩)
    go_ret
    exact ⟨rfl, hb⟩
  by_cases h2 : 500 < b.size
  · go_enter Try.func4, Try.ntmps4
    go_wp2_with (go_at_call 6; refine (awake4_c _).mono ?_; rintro e w' ⟨rfl, hb⟩)
    go_ret
    exact ⟨rfl, hb⟩
  obtain ⟨X, hX⟩ : ∃ X, escL (bs a) = X := ⟨_, rfl⟩
  have hxl : X.length ≤ 3000 := by have := escL_len (bs a); rw [bs_length] at this; rw [← hX]; omega
  have hxs : (tx X).size = X.length := tx_size X
  have HX := Lib.hid hX
  clear ha hb
  go_enter Try.func4, Try.ntmps4
  go_wp2_with fail
  refine (mEscape_b a _ X HX.out (by omega)).mono ?_
  rintro e w1 ⟨rfl, hb1⟩
  have HW1 := Lib.hid hb1
  clear hb1 hX
  go_wp2_with fail
  go_loop [6, 7] (fun p i => ∃ k : Nat, k ≤ a.size ∧ i = .int .i64 k ∧ ∃ q : Bool, p = .bool q ∧ Hid (q = plainTo (bs a) k)) (fun _ i => a.size - (intOf i).toNat)
  case atStart => exact ⟨0, Nat.zero_le _, rfl, true, rfl, rfl⟩
  case round =>
    obtain ⟨k, hk, rfl, q, rfl, hq⟩ := hrel
    by_cases hlt : k < a.size
    · have hn := plainTo_next (l := bs a) (k := k) (by rw [bs_length]; exact hlt)
      rw [bs_get a k hlt] at hn
      cases q with
      | false =>
        have HQ : Hid (false = plainTo (bs a) (k + 1)) := Lib.hid (by rw [hn, ← hq.out]; rfl)
        clear hn hq
        go_wp2_with fail
        go_round
        case rel => exact ⟨k + 1, by omega, by go_num, false, rfl, HQ⟩
        case measure => simp [intOf]; omega
      | true =>
        rw [← hq.out, Bool.true_and] at hn
        by_cases h38 : a[k] = 38
        · have hv : (a[k].toNat : Int) = 38 := by rw [h38]; rfl
          have HQ : Hid (false = plainTo (bs a) (k + 1)) := Lib.hid (by rw [hn, h38]; rfl)
          clear hn hq h38
          go_wp2_with fail
          go_round
          case rel => exact ⟨k + 1, by omega, by go_num, false, rfl, HQ⟩
          case measure => simp [intOf]; omega
        have e1 : ((a[k].toNat : Int) == 38) = false := byteNe h38
        by_cases h60 : a[k] = 60
        · have hv : (a[k].toNat : Int) = 60 := by rw [h60]; rfl
          have HQ : Hid (false = plainTo (bs a) (k + 1)) := Lib.hid (by rw [hn, h60]; rfl)
          clear hn hq h38 h60 e1
          go_wp2_with fail
          go_round
          case rel => exact ⟨k + 1, by omega, by go_num, false, rfl, HQ⟩
          case measure => simp [intOf]; omega
        have e2 : ((a[k].toNat : Int) == 60) = false := byteNe h60
        by_cases h62 : a[k] = 62
        · have hv : (a[k].toNat : Int) = 62 := by rw [h62]; rfl
          have HQ : Hid (false = plainTo (bs a) (k + 1)) := Lib.hid (by rw [hn, h62]; rfl)
          clear hn hq h38 h60 e1 e2 h62
          go_wp2_with fail
          go_round
          case rel => exact ⟨k + 1, by omega, by go_num, false, rfl, HQ⟩
          case measure => simp [intOf]; omega
        have e3 : ((a[k].toNat : Int) == 62) = false := byteNe h62
        by_cases h34 : a[k] = 34
        · have hv : (a[k].toNat : Int) = 34 := by rw [h34]; rfl
          have HQ : Hid (false = plainTo (bs a) (k + 1)) := Lib.hid (by rw [hn, h34]; rfl)
          clear hn hq h38 h60 e1 e2 h62 e3 h34
          go_wp2_with fail
          go_round
          case rel => exact ⟨k + 1, by omega, by go_num, false, rfl, HQ⟩
          case measure => simp [intOf]; omega
        have e4 : ((a[k].toNat : Int) == 34) = false := byteNe h34
        have n1 : ((a[k].toNat : Int) != 38) = true := by rw [bne, e1]; rfl
        have n2 : ((a[k].toNat : Int) != 60) = true := by rw [bne, e2]; rfl
        have n3 : ((a[k].toNat : Int) != 62) = true := by rw [bne, e3]; rfl
        have n4 : ((a[k].toNat : Int) != 34) = true := by rw [bne, e4]; rfl
        have HQ : Hid (true = plainTo (bs a) (k + 1)) := Lib.hid (by rw [hn]; unfold plain8; simp [h38, h60, h62, h34])
        clear hn hq h38 h60 h62 h34
        go_wp2_with fail
        go_round
        case rel => exact ⟨k + 1, by omega, by go_num, true, rfl, HQ⟩
        case measure => simp [intOf]; omega
    · obtain rfl : k = a.size := by omega
      have HPL : Hid ((X == a.toList) = q) := Lib.hid (by
        rw [hq.out, ByteArray.toList_eq]
        unfold plainTo
        rw [List.take_of_length_le (by rw [bs_length]; exact Nat.le_refl _), Bool.eq_iff_iff, beq_iff_eq, ← HX.out]
        exact escL_same (bs a))
      clear hq
      go_wp2_with fail
      go_loop [8] (fun i => ∃ m : Nat, m ≤ X.length ∧ i = .int .i64 m) (fun i => X.length - (intOf i).toNat)
      case atStart => exact ⟨0, Nat.zero_le _, rfl⟩
      case round =>
        obtain ⟨m, hm, rfl⟩ := hrel
        by_cases hml : m < X.length
        · have hmt : m < (tx X).size := by rw [hxs]; exact hml
          have hok : (tx X)[m] ≠ 60 ∧ (tx X)[m] ≠ 62 ∧ (tx X)[m] ≠ 34 := by
            have hml' : m < (escL (bs a)).length := by rw [HX.out]; exact hml
            have := escL_ok (l := bs a) m hml'
            have e : (escL (bs a))[m] = (tx X)[m] := by
              have : X[m] = (tx X)[m] := rfl
              rw [← this]
              simp only [HX.out]
              rfl
            rw [e] at this
            exact this
          have e1 : (((tx X)[m].toNat : Int) == 60) = false := byteNe hok.1
          have e2 : (((tx X)[m].toNat : Int) == 62) = false := byteNe hok.2.1
          have e3 : (((tx X)[m].toNat : Int) == 34) = false := byteNe hok.2.2
          clear hok
          go_wp2_with fail
          go_round
          case rel => exact ⟨m + 1, by omega, by go_num⟩
          case measure => simp [intOf]; omega
        · obtain rfl : m = X.length := by omega
          obtain ⟨Y, hY⟩ : ∃ Y, escL (bs b) = Y := ⟨_, rfl⟩
          have HY := Lib.hid hY
          have HXY : Hid (escL (bs (a ++ b)) = X ++ Y) := Lib.hid (by rw [bs_append, escL_append, HX.out, hY])
          have hsz : (a ++ b).size ≤ 20000000000000 := by rw [← bs_length, bs_append, List.length_append, bs_length, bs_length]; omega
          have HSZ := Lib.hid hsz
          have hyl : Y.length ≤ 3000 := by have := escL_len (bs b); rw [bs_length] at this; rw [← hY]; omega
          have hys : (tx Y).size = Y.length := tx_size Y
          have htl := txl
          have hxy := tx_app X Y
          have hpl := HPL.out
          have hws := HW1.out.size
          clear hY hsz
          go_wp2_with fail
          refine (awake4_c _).mono ?_
          rintro e w2 ⟨rfl, hb2⟩
          have HW2 : Hid (Below w.heap.size w w2) := Lib.hid (HW1.out.trans (hb2.mono hws))
          have hws2 := HW2.out.size
          clear hb2
          go_wp2_with fail
          refine (mEscape_b (a ++ b) _ _ HXY.out HSZ.out).mono ?_
          rintro e w3 ⟨rfl, hb3⟩
          have HW3 : Hid (Below w.heap.size w w3) := Lib.hid (HW2.out.trans (hb3.mono hws2))
          have hws3 := HW3.out.size
          clear hb3
          go_wp2_with fail
          refine (mEscape_b b _ _ HY.out (by omega)).mono ?_
          rintro e w4 ⟨rfl, hb4⟩
          have HW4 : Hid (Below w.heap.size w w4) := Lib.hid (HW3.out.trans (hb4.mono hws3))
          clear hb4
          go_wp2_with fail
          go_ret
          exact ⟨rfl, HW4.out⟩

end Go.Proofs.Ytdcgeobimenlpaa
