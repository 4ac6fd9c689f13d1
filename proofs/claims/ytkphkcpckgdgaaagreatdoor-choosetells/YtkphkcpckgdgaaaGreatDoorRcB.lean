/-
  The document's Is, blank, behind (newelref05). The document's span (newelref05).
-/
import Derived.Test.YtkphkcpckgdgaaaGreatDoorRcA
import Derived.Test.YtkphkcpckgdgaaaGreatDoorSb
import Derived.Test.YtkphkcpckgdgaaaGreatDoorSpCut
import Derived.Deep.RegionHeld3
namespace Nwl
open Go
theorem rtrim_cons (p : UInt8 → Bool) (a : UInt8) (l : List UInt8) : ((a :: l).reverse.dropWhile p).reverse = if (l.reverse.dropWhile p).reverse = [] then (if p a then [] else [a]) else a :: (l.reverse.dropWhile p).reverse := by
  rw [List.reverse_cons, List.dropWhile_append]
  by_cases h : l.reverse.dropWhile p = []
  · rw [h]
    simp only [List.isEmpty_nil, if_true, List.reverse_nil]
    cases hp : p a <;> simp [List.dropWhile, hp]
  · have h2 : (l.reverse.dropWhile p).isEmpty = false := by simpa using h
    rw [h2, if_neg (by simp), if_neg (by simpa using h), List.reverse_append]
    rfl
theorem trim_comm (p : UInt8 → Bool) : ∀ l : List UInt8, ((l.dropWhile p).reverse.dropWhile p).reverse = ((l.reverse.dropWhile p).reverse).dropWhile p
  | [] => rfl
  | a :: l => by
    have ih := trim_comm p l
    rw [rtrim_cons]
    cases hp : p a with
    | true =>
      rw [List.dropWhile_cons, hp]
      simp only [if_true]
      rw [ih]
      split
      · rename_i h; rw [h]
      · rw [List.dropWhile_cons, hp]; simp
    | false =>
      rw [List.dropWhile_cons, hp]
      simp only [Bool.false_eq_true, if_false]
      rw [rtrim_cons, hp]
      split
      · rw [List.dropWhile_cons, hp]; simp
      · rw [List.dropWhile_cons, hp]; simp
theorem trim_eq (l : List UInt8) : Lib.trimRightB (Lib.trimLeftB l 32) 32 = Lib.trimB l 32 := trim_comm (· == 32) l
theorem trimL_cons (c : UInt8) (l : List UInt8) : Lib.trimLeftB (c :: l) 32 = if c == 32 then Lib.trimLeftB l 32 else c :: l := by
  unfold Lib.trimLeftB
  rw [List.dropWhile_cons]
theorem trimR_snoc (c : UInt8) (l : List UInt8) : Lib.trimRightB (l ++ [c]) 32 = if c == 32 then Lib.trimRightB l 32 else l ++ [c] := by
  unfold Lib.trimRightB
  rw [List.reverse_append]
  show (List.dropWhile _ (c :: l.reverse)).reverse = _
  rw [List.dropWhile_cons]
  split
  · rfl
  · rw [List.reverse_cons, List.reverse_reverse]
theorem snoc_of (l : List UInt8) (h : l ≠ []) : ∃ r c, l = r ++ [c] := ⟨l.dropLast, l.getLast h, (List.dropLast_concat_getLast h).symm⟩
/-- of two spans, one behind the other -/
def behindB (a b : Sp) : Bool := !(a.hi == [] || b.lo == []) && aboveB b.lo a.hi (!(a.ih && b.il))
end Nwl
namespace Go.Proofs.YtkphkcpckgdgaaaGreatDoor
open Nwl
open Go.RowKit Go.Maps
set_option linter.unusedVariables false

def sizeV (v : Value) : Nat := match v with
  | .string s => s.size
  | _ => 0

set_option maxRecDepth 100000 in
theorem rIs_c (s : ByteArray) (w : World) (hsz : s.size ≤ maxLen) (r : Bool) (hr : isR (bs s) = r) :
    Calls Tryz.prog 19 #[.string s] w fun e w' => e = .returned (.bool r) ∧ w = w' := by
  by_cases h0 : s.size = 0
  · have HR : Hid (false = r) := Lib.hid (by rw [← hr, bs_nil h0]; rfl)
    clear hr
    go_enter Tryz.func19, Tryz.ntmps19
    go_wp2_with fail
    go_ret
    exact ⟨ret_bool HR.out, rfl⟩
  · have hs : 0 < s.size := by omega
    have hr2 : ((s[0].toNat : Int) == 91 || (s[0].toNat : Int) == 40) = r := by
      rw [← hr, bs_hd hs]
      show _ = (s[0] == 91 || s[0] == 40)
      rw [Bool.eq_iff_iff]
      simp only [Bool.or_eq_true, beq_iff_eq, ← UInt8.toNat_inj]
      show (s[0].toNat : Int) = 91 ∨ (s[0].toNat : Int) = 40 ↔ s[0].toNat = 91 ∨ s[0].toNat = 40
      omega
    clear hr
    obtain ⟨c, hc⟩ : ∃ c, ((s[0].toNat : Int) == 91) = c := ⟨_, rfl⟩
    obtain ⟨d, hd⟩ : ∃ c, ((s[0].toNat : Int) == 40) = c := ⟨_, rfl⟩
    rw [hc, hd] at hr2
    have HR := Lib.hid hr2
    clear hr2
    cases c
    · go_enter Tryz.func19, Tryz.ntmps19
      go_wp2_with fail
      go_ret
      exact ⟨ret_bool HR.out, rfl⟩
    · go_enter Tryz.func19, Tryz.ntmps19
      go_wp2_with fail
      go_ret
      exact ⟨ret_bool (by have := HR.out; simpa using this), rfl⟩

set_option maxRecDepth 100000 in
set_option maxHeartbeats 2000000 in
theorem rbehind_w (a b c d : ByteArray) (p q p2 q2 : Bool) (w : World) (ha : b.size ≤ 3000) (hb : c.size ≤ 3000) (r : Bool) (hr : behindB ⟨bs a, bs b, p, q⟩ ⟨bs c, bs d, p2, q2⟩ = r) :
    Calls Tryz.prog 32 #[.agg #[.string a, .string b, .bool p, .bool q], .agg #[.string c, .string d, .bool p2, .bool q2]] w fun e w' => e = .returned (.bool r) ∧ Hid (Below w.heap.size w w') := by
  have hr2 : (!(bs b == [] || bs c == []) && aboveB (bs c) (bs b) (!(q && p2))) = r := hr
  clear hr
  have B0 : Hid (Below w.heap.size w ((w.alloc (.cells #[.string a, .string b, .bool p, .bool q] 27)).alloc (.cells #[.string c, .string d, .bool p2, .bool q2] 27))) := Lib.hid (((Below.refl _ _).alloc (Nat.le_refl _) _).alloc (by simp) _)
  have X0 := Lib.hid ((Blk.new w 27 #[.string a, .string b, .bool p, .bool q]).alloc (.cells #[.string c, .string d, .bool p2, .bool q2] 27))
  have Y0 := Blk.new (w.alloc (.cells #[.string a, .string b, .bool p, .bool q] 27)) 27 #[.string c, .string d, .bool p2, .bool q2]
  have Y1 : Hid (Blk ((w.alloc (.cells #[.string a, .string b, .bool p, .bool q] 27)).alloc (.cells #[.string c, .string d, .bool p2, .bool q2] 27)) (w.heap.size + 1) 27 #[.string c, .string d, .bool p2, .bool q2]) := Lib.hid (by simpa using Y0)
  clear Y0
  have k0 := X0.out.cell 1
  have k1 := Y1.out.cell 0
  simp at k0 k1
  by_cases h0 : b.size = 0
  · have he : b.toList = [] := toList_nil_of b h0
    obtain rfl : false = r := by rw [← hr2, bs_nil h0]; rfl
    clear hr2 h0
    go_enter Tryz.func32, Tryz.ntmps32
    go_wp2_with fail
    go_ret
    exact ⟨rfl, B0⟩
  · have hs : 0 < b.size := by omega
    have hne : (b.toList == []) = false := by rw [toList_bs]; exact bs_beq_nil hs
    rw [bs_beq_nil hs, Bool.false_or] at hr2
    by_cases h1 : c.size = 0
    · have he : c.toList = [] := toList_nil_of c h1
      obtain rfl : false = r := by rw [← hr2, bs_nil h1]; rfl
      clear hr2 h0 h1
      go_enter Tryz.func32, Tryz.ntmps32
      go_wp2_with fail
      go_ret
      exact ⟨rfl, B0⟩
    · have hs2 : 0 < c.size := by omega
      have hne2 : (c.toList == []) = false := by rw [toList_bs]; exact bs_beq_nil hs2
      rw [bs_beq_nil hs2, Bool.not_false, Bool.true_and] at hr2
      obtain ⟨z, hz⟩ : ∃ z, cmpV (bs b) (bs c) = z := ⟨_, rfl⟩
      have hsg := ord_v.sgn (bs b) (bs c)
      have han := ord_v.anti (bs b) (bs c)
      rw [hz] at hsg han
      unfold aboveB at hr2
      rw [han] at hr2
      have HZ := Lib.hid hz
      clear hz han h0 h1
      rcases hsg with rfl | rfl | rfl
      · obtain rfl : true = r := by rw [← hr2]; rfl
        clear hr2
        go_enter Tryz.func32, Tryz.ntmps32
        go_wp2_with fail
        refine (rCompare_c b c _ ha hb _ HZ.out).mono ?_
        rintro e w1 ⟨rfl, b1⟩
        have B1 := Lib.hid (B0.out.trans (b1.out.mono B0.out.size))
        go_wp2_with fail
        go_ret
        exact ⟨rfl, B1⟩
      · have HR : Hid ((!(q && p2)) = r) := Lib.hid (by rw [← hr2]; rfl)
        clear hr2
        cases q
        all_goals (
          go_enter Tryz.func32, Tryz.ntmps32
          go_wp2_with fail
          refine (rCompare_c b c _ ha hb _ HZ.out).mono ?_
          rintro e w1 ⟨rfl, b1⟩
          have B1 := Lib.hid (B0.out.trans (b1.out.mono B0.out.size))
          have j0 := (X0.out.below b1.out).cell 3
          have j1 := (Y1.out.below b1.out).cell 2
          simp at j0 j1
          go_wp2_with fail
          go_ret
          exact ⟨ret_bool HR.out, B1⟩)
      · obtain rfl : false = r := by rw [← hr2]; rfl
        clear hr2
        go_enter Tryz.func32, Tryz.ntmps32
        go_wp2_with fail
        refine (rCompare_c b c _ ha hb _ HZ.out).mono ?_
        rintro e w1 ⟨rfl, b1⟩
        have B1 := Lib.hid (B0.out.trans (b1.out.mono B0.out.size))
        go_wp2_with fail
        go_ret
        exact ⟨rfl, B1⟩
theorem rbehind_c (s t : Sp) (w : World) (ha : s.hi.length ≤ 3000) (hb : t.lo.length ≤ 3000) (r : Bool) (hr : behindB s t = r) :
    Calls Tryz.prog 32 #[spV s, spV t] w fun e w' => e = .returned (.bool r) ∧ Hid (Below w.heap.size w w') :=
  rbehind_w (tx s.lo) (tx s.hi) (tx t.lo) (tx t.hi) s.il s.ih t.il t.ih w (by rw [tx_size]; exact ha) (by rw [tx_size]; exact hb) r (by rw [bs_tx, bs_tx, bs_tx, bs_tx]; exact hr)

set_option maxRecDepth 100000 in
set_option maxHeartbeats 1000000 in
theorem rblank_c (l : List UInt8) (w : World) (hl : l.length ≤ 100000) (T : List UInt8) (hT : Lib.trimB l 32 = T) :
    Calls Tryz.prog 46 #[.string (tx l)] w fun e w' => e = .returned (.string (tx T)) ∧ w = w' := by
  have HT : Hid (Lib.trimRightB (Lib.trimLeftB l 32) 32 = T) := Lib.hid (by rw [trim_eq, hT])
  clear hT
  go_enter Tryz.func46, Tryz.ntmps46
  go_wp2_with fail
  go_loopw [0] (fun v wr => ∃ L : List UInt8, v = .string (tx L) ∧ L.length ≤ 100000 ∧ Hid (Lib.trimRightB (Lib.trimLeftB L 32) 32 = T) ∧ w = wr) (fun v _ => sizeV v)
  case atStart => exact ⟨l, rfl, hl, HT, rfl⟩
  case round =>
    obtain ⟨L, rfl, hL, hgo, rfl⟩ := hrel
    cases L with
    | nil =>
      have H2 : Hid (Lib.trimRightB [] 32 = T) := Lib.hid hgo.out
      clear hgo
      go_wp2_with fail
      go_loopw [0] (fun v wr => ∃ L : List UInt8, v = .string (tx L) ∧ L.length ≤ 100000 ∧ Hid (Lib.trimRightB L 32 = T) ∧ w = wr) (fun v _ => sizeV v)
      case atStart => exact ⟨[], rfl, by simp, H2, rfl⟩
      case round =>
        obtain ⟨L, rfl, hL, hgo, rfl⟩ := hrel
        rcases Nat.eq_zero_or_pos L.length with h0 | h0
        · obtain rfl := List.eq_nil_of_length_eq_zero h0
          have H3 : Hid (tx [] = tx T) := Lib.hid (by rw [← hgo.out]; rfl)
          clear hgo h0
          go_wp2_with fail
          go_ret
          exact ⟨ret_str H3.out, rfl⟩
        · obtain ⟨Q, z, rfl⟩ := snoc_of L (by intro e; rw [e] at h0; simp at h0)
          obtain ⟨f, hf⟩ : ∃ d, ((z.toNat : Int) == 32) = d := ⟨_, rfl⟩
          have hf2 : (z == 32) = f := by
            rw [← hf, Bool.eq_iff_iff, beq_iff_eq, beq_iff_eq, ← UInt8.toNat_inj]
            show z.toNat = 32 ↔ _
            omega
          have hQl : Q.length ≤ 100000 := by simp at hL; omega
          have HQL : Hid (∀ x : List UInt8, x = Q → x.length ≤ 100000) := Lib.hid (by rintro x rfl; exact hQl)
          have ysz : (tx (Q ++ [z])).size = Q.length + 1 := by rw [tx_size]; simp
          have ylt : Q.length < (tx (Q ++ [z])).size := by omega
          have yat : (tx (Q ++ [z]))[Q.length]'ylt = z := by
            show (Q ++ [z])[Q.length]'(by simp) = z
            rw [List.getElem_append_right (Nat.le_refl _)]
            simp
          have yex : (tx (Q ++ [z])).extract 0 Q.length = tx Q := by
            apply bs_inj
            rw [bs_extract, bs_tx, bs_tx]
            simp
          have yw : IntKind.i64.wrap (((tx (Q ++ [z])).size : Int) - 1) = (Q.length : Int) := by
            rw [ysz]
            simp [IntKind.wrap, IntKind.bits, IntKind.signed]
            omega
          have HY : Hid ((tx (Q ++ [z])).size = Q.length + 1) := Lib.hid ysz
          have HQ : Hid ((tx Q).size = Q.length) := Lib.hid (tx_size Q)
          have ypos : 0 < (tx (Q ++ [z])).size := by omega
          have yle : Q.length ≤ (tx (Q ++ [z])).size := by omega
          cases f with
          | true =>
            have H3 : Hid (Lib.trimRightB Q 32 = T) := Lib.hid (by
              have := hgo.out
              rw [trimR_snoc, hf2] at this
              exact this)
            clear hgo hf2 hL h0 ysz
            generalize tx (Q ++ [z]) = Y at *
            have hY0 : (((Y[Q.length]'ylt).toNat : Int) == 32) = true := by rw [yat]; exact hf
            clear yat hf
            generalize Q.length = k at *
            go_wp2_with fail
            go_roundw
            case rel => exact ⟨Q, rfl, HQL.out Q rfl, H3, by first | exact rfl | trivial⟩
            case measure => (have := HY.out); (have := HQ.out); simp [sizeV]; omega
          | false =>
            have H3 : Hid (tx (Q ++ [z]) = tx T) := Lib.hid (by
              have := hgo.out
              rw [trimR_snoc, hf2] at this
              rw [← this]; rfl)
            clear hgo hf2 hL h0 ysz yex
            generalize tx (Q ++ [z]) = Y at *
            have hY0 : (((Y[Q.length]'ylt).toNat : Int) == 32) = false := by rw [yat]; exact hf
            clear yat hf
            generalize Q.length = k at *
            go_wp2_with fail
            go_ret
            exact ⟨ret_str H3.out, rfl⟩
    | cons c R =>
      obtain ⟨d, hd⟩ : ∃ d, ((c.toNat : Int) == 32) = d := ⟨_, rfl⟩
      have hd2 : (c == 32) = d := by
        rw [← hd, Bool.eq_iff_iff, beq_iff_eq, beq_iff_eq, ← UInt8.toNat_inj]
        show c.toNat = 32 ↔ _
        omega
      have hx0 : 0 < (tx (c :: R)).size := by rw [tx_size]; simp
      have hxe : (tx (c :: R))[0] = c := rfl
      have hex : (tx (c :: R)).extract 1 (tx (c :: R)).size = tx R := by
        apply bs_inj
        rw [bs_extract, bs_tx, bs_tx, tx_size]
        simp
      have hsz : (tx (c :: R)).size = (tx R).size + 1 := by rw [tx_size, tx_size]; simp
      have hle1 : (1 : Int) ≤ ((tx (c :: R)).size : Int) := by omega
      have hRl : R.length ≤ 100000 := by simp at hL; omega
      have hLL : (c :: R).length ≤ 100000 := hL
      cases d with
      | true =>
        have H2 : Hid (Lib.trimRightB (Lib.trimLeftB R 32) 32 = T) := Lib.hid (by
          have := hgo.out
          rw [trimL_cons, hd2] at this
          exact this)
        clear hgo hd2 hL
        generalize htx : tx (c :: R) = X at *
        have HTX := Lib.hid htx
        clear htx
        have hT0 : ((X[0].toNat : Int) == 32) = true := by rw [hxe]; exact hd
        clear hxe hd
        have HSZ := Lib.hid hsz
        clear hsz
        go_wp2_with fail
        go_roundw
        case rel => exact ⟨R, rfl, hRl, H2, by first | exact rfl | trivial⟩
        case measure => (have := HSZ.out); simp [sizeV]; omega
      | false =>
        have H2 : Hid (Lib.trimRightB (c :: R) 32 = T) := Lib.hid (by
          have := hgo.out
          rw [trimL_cons, hd2] at this
          exact this)
        clear hgo hd2 hL hex
        generalize htx : tx (c :: R) = X at *
        have HTX := Lib.hid htx
        clear htx
        have hT0 : ((X[0].toNat : Int) == 32) = false := by rw [hxe]; exact hd
        clear hxe hd
        have HSZ := Lib.hid hsz
        clear hsz
        go_wp2_with fail
        go_loopw [0] (fun v wr => ∃ L : List UInt8, v = .string (tx L) ∧ L.length ≤ 100000 ∧ Hid (Lib.trimRightB L 32 = T) ∧ w = wr) (fun v _ => sizeV v)
        case atStart => exact ⟨c :: R, by rw [HTX.out], hLL, H2, rfl⟩
        case round =>
          obtain ⟨L, rfl, hL, hgo, rfl⟩ := hrel
          rcases Nat.eq_zero_or_pos L.length with h0 | h0
          · obtain rfl := List.eq_nil_of_length_eq_zero h0
            have H3 : Hid (tx [] = tx T) := Lib.hid (by rw [← hgo.out]; rfl)
            clear hgo h0
            go_wp2_with fail
            go_ret
            exact ⟨ret_str H3.out, rfl⟩
          · obtain ⟨Q, z, rfl⟩ := snoc_of L (by intro e; rw [e] at h0; simp at h0)
            obtain ⟨f, hf⟩ : ∃ d, ((z.toNat : Int) == 32) = d := ⟨_, rfl⟩
            have hf2 : (z == 32) = f := by
              rw [← hf, Bool.eq_iff_iff, beq_iff_eq, beq_iff_eq, ← UInt8.toNat_inj]
              show z.toNat = 32 ↔ _
              omega
            have hQl : Q.length ≤ 100000 := by simp at hL; omega
            have HQL : Hid (∀ x : List UInt8, x = Q → x.length ≤ 100000) := Lib.hid (by rintro x rfl; exact hQl)
            have ysz : (tx (Q ++ [z])).size = Q.length + 1 := by rw [tx_size]; simp
            have ylt : Q.length < (tx (Q ++ [z])).size := by omega
            have yat : (tx (Q ++ [z]))[Q.length]'ylt = z := by
              show (Q ++ [z])[Q.length]'(by simp) = z
              rw [List.getElem_append_right (Nat.le_refl _)]
              simp
            have yex : (tx (Q ++ [z])).extract 0 Q.length = tx Q := by
              apply bs_inj
              rw [bs_extract, bs_tx, bs_tx]
              simp
            have yw : IntKind.i64.wrap (((tx (Q ++ [z])).size : Int) - 1) = (Q.length : Int) := by
              rw [ysz]
              simp [IntKind.wrap, IntKind.bits, IntKind.signed]
              omega
            have HY : Hid ((tx (Q ++ [z])).size = Q.length + 1) := Lib.hid ysz
            have HQ : Hid ((tx Q).size = Q.length) := Lib.hid (tx_size Q)
            have ypos : 0 < (tx (Q ++ [z])).size := by omega
            have yle : Q.length ≤ (tx (Q ++ [z])).size := by omega
            cases f with
            | true =>
              have H3 : Hid (Lib.trimRightB Q 32 = T) := Lib.hid (by
                have := hgo.out
                rw [trimR_snoc, hf2] at this
                exact this)
              clear hgo hf2 hL h0 ysz
              generalize tx (Q ++ [z]) = Y at *
              have hY0 : (((Y[Q.length]'ylt).toNat : Int) == 32) = true := by rw [yat]; exact hf
              clear yat hf
              generalize Q.length = k at *
              go_wp2_with fail
              go_roundw
              case rel => exact ⟨Q, rfl, HQL.out Q rfl, H3, by first | exact rfl | trivial⟩
              case measure => (have := HY.out); (have := HQ.out); simp [sizeV]; omega
            | false =>
              have H3 : Hid (tx (Q ++ [z]) = tx T) := Lib.hid (by
                have := hgo.out
                rw [trimR_snoc, hf2] at this
                rw [← this]; rfl)
              clear hgo hf2 hL h0 ysz yex
              generalize tx (Q ++ [z]) = Y at *
              have hY0 : (((Y[Q.length]'ylt).toNat : Int) == 32) = false := by rw [yat]; exact hf
              clear yat hf
              generalize Q.length = k at *
              go_wp2_with fail
              go_ret
              exact ⟨ret_str H3.out, rfl⟩
end Go.Proofs.YtkphkcpckgdgaaaGreatDoor

namespace Nwl
open Go
theorem byte_snoc (x c : UInt8) : ∀ l : List UInt8, Lib.indexByte (l ++ [c]) x = if Lib.indexByte l x = -1 then (if c == x then (l.length : Int) else -1) else Lib.indexByte l x
  | [] => by
    show (if c == x then 0 else if Lib.indexByte [] x == -1 then -1 else Lib.indexByte [] x + 1) = _
    have : Lib.indexByte [] x = -1 := rfl
    rw [this]
    cases c == x <;> simp
  | a :: l => by
    have ih := byte_snoc x c l
    have g := Lib.indexByte_ge l x
    rw [List.cons_append, Lib.indexByte, Lib.indexByte, ih, List.length_cons]
    cases a == x with
    | true => simp
    | false =>
      simp only [Bool.false_eq_true, if_false]
      by_cases h : Lib.indexByte l x = -1
      · rw [if_pos h, h]
        simp only [beq_self_eq_true, if_true]
        cases c == x with
        | true =>
          simp only [if_true]
          have : ((l.length : Int) == -1) = false := by rw [beq_eq_false_iff_ne]; omega
          rw [this]
          simp
        | false => simp
      · rw [if_neg h]
        have h2 : (Lib.indexByte l x == -1) = false := by rw [beq_eq_false_iff_ne]; exact h
        rw [h2]
        simp only [Bool.false_eq_true, if_false]
        rw [if_neg (by omega)]
theorem byte_lt (x : UInt8) : ∀ l : List UInt8, Lib.indexByte l x < l.length ∨ l = []
  | [] => .inr rfl
  | a :: l => by
    left
    have ih := byte_lt x l
    have g := Lib.indexByte_ge l x
    rw [Lib.indexByte, List.length_cons]
    split
    · omega
    · split
      · omega
      · rename_i h
        rw [beq_iff_eq] at h
        rcases ih with ih | rfl
        · omega
        · exact absurd rfl h
/-- a span of what stands between its brackets, as the document takes it -/
def refOne (m : List UInt8) (c d : Int) : Sp × Bool :=
  if Lib.indexByte m 44 < 0 then (⟨Lib.trimB m 32, Lib.trimB m 32, true, true⟩, (!(Lib.trimB m 32 == [])) && (c == 91) && (d == 93))
  else (⟨Lib.trimB (m.take (Lib.indexByte m 44).toNat) 32, Lib.trimB (m.drop ((Lib.indexByte m 44).toNat + 1)) 32, c == 91, d == 93⟩, true)
end Nwl
namespace Go.Proofs.YtkphkcpckgdgaaaGreatDoor
set_option linter.unusedSimpArgs false
open Nwl
open Go.RowKit Go.Maps
set_option linter.unusedVariables false

set_option maxRecDepth 100000 in
set_option maxHeartbeats 8000000 in
theorem rspan_c (s : ByteArray) (c d : Int) (w : World) (hs : s.size ≤ 100000) (x : Sp) (is : Bool) (hx : refOne (bs s) c d = (x, is)) :
    Calls Tryz.prog 30 #[.string s, .int .u8 c, .int .u8 d] w fun e w' => e = .returned (.tuple #[spV x, .bool is]) ∧ Hid (Below w.heap.size w w') := by
  have HX := Lib.hid hx
  clear hx
  go_enter Tryz.func30, Tryz.ntmps30
  go_wp2_with fail
  go_loopw [8, 9] (fun av iv wr => ∃ (k : Nat) (a : Int), k ≤ s.size ∧ av = .int .i64 a ∧ iv = .int .i64 k ∧ Hid (Lib.indexByte ((bs s).take k) 44 = a) ∧ Hid (wr = w.alloc (.cells #[.string ⟨#[]⟩, .string ⟨#[]⟩, .bool false, .bool false] 27))) (fun _ iv _ => s.size - (intOf iv).toNat)
  case atStart => exact ⟨0, -1, by omega, rfl, rfl, Lib.hid (by rw [List.take_zero]; rfl), Lib.hid rfl⟩
  case round =>
    obtain ⟨k, a, hk, rfl, rfl, ha, hw⟩ := hrel
    by_cases hlt : k < s.size
    · have hkl : k < (bs s).length := by rw [bs_length]; exact hlt
      obtain ⟨b, hb⟩ : ∃ b, ((s[k].toNat : Int) == 44) = b := ⟨_, rfl⟩
      have hstep : Hid (Lib.indexByte ((bs s).take (k + 1)) 44 = if a = -1 then (if b then (k : Int) else -1) else a) := Lib.hid (by
        have e : (bs s)[k] = s[k] := rfl
        rw [← List.take_append_getElem hkl, byte_snoc, ha.out, e]
        have hb2 : (s[k] == 44) = b := by
          rw [← hb, Bool.eq_iff_iff, beq_iff_eq, beq_iff_eq, ← UInt8.toNat_inj]
          show s[k].toNat = 44 ↔ _
          omega
        rw [hb2, List.length_take]
        have : min k (bs s).length = k := by omega
        rw [this])
      have hge : Hid (-1 ≤ a) := Lib.hid (by rw [← ha.out]; exact Lib.indexByte_ge _ _)
      cases b with
      | false =>
        have hbp : ¬ (s[k].toNat : Int) = 44 := by rw [beq_eq_false_iff_ne] at hb; exact hb
        have hn : Hid (Lib.indexByte ((bs s).take (k + 1)) 44 = a) := Lib.hid (by rw [hstep.out]; split <;> simp_all)
        clear hstep ha hb
        go_wp2_with fail
        go_roundw
        case rel => exact ⟨k + 1, a, by omega, rfl, by go_num, hn, hw⟩
        case measure => simp [intOf]; omega
      | true =>
        have hbp : (s[k].toNat : Int) = 44 := by rw [beq_iff_eq] at hb; exact hb
        clear hb
        by_cases hneg : a < 0
        · have hn : Hid (Lib.indexByte ((bs s).take (k + 1)) 44 = k) := Lib.hid (by rw [hstep.out, if_pos (by have := hge.out; omega)]; rfl)
          clear hstep ha
          go_wp2_with fail
          go_roundw
          case rel => exact ⟨k + 1, k, by omega, rfl, by go_num, hn, hw⟩
          case measure => simp [intOf]; omega
        · have hn : Hid (Lib.indexByte ((bs s).take (k + 1)) 44 = a) := Lib.hid (by rw [hstep.out, if_neg (by omega)])
          have h0a : 0 ≤ a := by omega
          clear hstep ha hneg
          go_wp2_with fail
          go_roundw
          case rel => exact ⟨k + 1, a, by omega, rfl, by go_num, hn, hw⟩
          case measure => simp [intOf]; omega
    · obtain rfl : k = s.size := by omega
      have hF : Lib.indexByte (bs s) 44 = a := by
        have := ha.out
        rwa [List.take_of_length_le (by rw [bs_length]; exact Nat.le_refl _)] at this
      obtain rfl := hw.out
      have hx := HX.out
      unfold refOne at hx
      rw [hF] at hx
      have hlt2 := byte_lt 44 (bs s)
      rw [hF, bs_length] at hlt2
      by_cases hneg : a < 0
      · rw [if_pos hneg] at hx
        obtain ⟨T, hT⟩ : ∃ T, Lib.trimB (bs s) 32 = T := ⟨_, rfl⟩
        rw [hT] at hx
        have HT := Lib.hid hT
        obtain ⟨p, hp⟩ : ∃ p, (T == []) = p := ⟨_, rfl⟩
        have hpt : ((tx T).toList == []) = p := by rw [toList_bs, bs_tx]; exact hp
        have hpt2 : ((tx T).toList != []) = !p := by rw [bne, hpt]
        obtain ⟨q, hq⟩ : ∃ q, (c == 91) = q := ⟨_, rfl⟩
        obtain ⟨u, hu⟩ : ∃ u, (d == 93) = u := ⟨_, rfl⟩
        rw [hp, hq, hu] at hx
        injection hx with hx1 hx2
        subst hx1
        have HI := Lib.hid hx2
        have hss : tx (bs s) = s := rfl
        have XF := Lib.hid (KB.new w (.string (tx T)) (.string (tx T)) (.bool true) (.bool true))
        clear hx2 hT hp hF ha hlt2 hw hlt
        cases p <;> cases q
        all_goals (
          go_wp2_with fail
          refine (rblank_c (bs s) _ (by rw [bs_length]; exact hs) T HT.out).mono ?_
          rintro e w1 ⟨rfl, rfl⟩
          have hcp : (c = 91) ↔ (c == 91) = true := by rw [beq_iff_eq]
          obtain ⟨k0, k1, k2, k3⟩ := KB.rd XF
          go_wp2_with fail
          refine bodyPost_ret (v := .tuple #[spV ⟨T, T, true, true⟩, .bool is]) ?_ rfl ⟨rfl, Lib.hid XF.out.2⟩
          have hi := HI.out
          simp [results, Tryz.results30, go_sem, k0, k1, k2, k3]
          first | exact hi | (simp at hi; exact hi))
      · rw [if_neg hneg] at hx
        obtain ⟨F, rfl⟩ : ∃ F : Nat, a = F := ⟨a.toNat, by omega⟩
        have hFs : F < s.size := by
          rcases hlt2 with h | h
          · omega
          · have := congrArg List.length h
            rw [bs_length] at this
            rw [h] at hF
            exfalso
            have h3 : Lib.indexByte [] 44 = -1 := rfl
            rw [h3] at hF
            simp at this
            omega
        rw [Int.toNat_natCast] at hx
        obtain ⟨T, hT⟩ : ∃ T, Lib.trimB ((bs s).take F) 32 = T := ⟨_, rfl⟩
        obtain ⟨U, hU⟩ : ∃ T, Lib.trimB ((bs s).drop (F + 1)) 32 = T := ⟨_, rfl⟩
        rw [hT, hU] at hx
        obtain ⟨q, hq⟩ : ∃ q, (c == 91) = q := ⟨_, rfl⟩
        obtain ⟨u, hu⟩ : ∃ u, (d == 93) = u := ⟨_, rfl⟩
        rw [hq, hu] at hx
        injection hx with hx1 hx2
        subst hx1 hx2
        have eT : s.extract 0 F = tx ((bs s).take F) := by
          apply bs_inj
          rw [bs_extract, bs_tx]
          simp
        have eU : s.extract (F + 1) s.size = tx ((bs s).drop (F + 1)) := by
          apply bs_inj
          rw [bs_extract, bs_tx, List.take_of_length_le (by rw [List.length_drop, bs_length]; omega)]
        have HCT := Lib.hid (fun W => rblank_c ((bs s).take F) W (by rw [List.length_take, bs_length]; omega) T hT)
        have HCU := Lib.hid (fun W => rblank_c ((bs s).drop (F + 1)) W (by rw [List.length_drop, bs_length]; omega) U hU)
        rw [← eT] at HCT
        rw [← eU] at HCU
        have XF := Lib.hid (KB.new w (.string (tx T)) (.string (tx U)) (.bool q) (.bool u))
        have XF0 := Lib.hid (KB.new w (.string ⟨#[]⟩) (.string ⟨#[]⟩) (.bool false) (.bool false))
        have XP := KB.put XF0 (.string (tx T)) (.string (tx U)) (.bool q) (.bool u)
        have c1 : (0 : Int) ≤ (F : Int) := by omega
        have c2 : (F : Int) ≤ (s.size : Int) := by omega
        have c3 : (0 : Int) ≤ (F : Int) + 1 := by omega
        have c4 : (F : Int) + 1 ≤ (s.size : Int) := by omega
        have hi1 : IntKind.i64.wrap ((F : Int) + 1) = (F : Int) + 1 := by
          simp [IntKind.wrap, IntKind.bits, IntKind.signed]
          omega
        clear hT hU eT eU hF ha hlt2 hw hlt hneg
        go_wp2_with fail
        refine wp_region_any (by kernel_rfl) ?_
        change wpAny _ _ _ _ _ _ _ (World.drew _)
        refine wpAny_take (i := 0) (v := .string s) rfl (by kernel_rfl) (by kernel_rfl) (by kernel_rfl) (fun _ _ _ h => h) (Or.inl ⟨by rfl, fun W => by go_simp⟩) ?_
        simp only [Act.put, List.getElem_toArray, List.getElem_cons_zero, List.getElem_cons_succ, List.setIfInBounds_toArray, List.set_cons_zero, List.set_cons_succ]
        refine wpAny_take (i := 1) (v := .int .i64 (F : Int)) rfl (by kernel_rfl) (by kernel_rfl) (by kernel_rfl) (fun _ _ _ h => h) (Or.inl ⟨by rfl, fun W => by go_simp⟩) ?_
        simp only [Act.put, List.getElem_toArray, List.getElem_cons_zero, List.getElem_cons_succ, List.setIfInBounds_toArray, List.set_cons_zero, List.set_cons_succ]
        refine wpAny_take (i := 2) (v := .string (s.extract 0 F)) rfl (by kernel_rfl) (by kernel_rfl) (by kernel_rfl) (fun _ _ _ h => h) (Or.inl ⟨by rfl, fun W => by go_simp⟩) ?_
        simp only [Act.put, List.getElem_toArray, List.getElem_cons_zero, List.getElem_cons_succ, List.setIfInBounds_toArray, List.set_cons_zero, List.set_cons_succ]
        refine wpAny_take (i := 4) (v := .string s) rfl (by kernel_rfl) (by kernel_rfl) (by kernel_rfl) (fun _ _ _ h => h) (Or.inl ⟨by rfl, fun W => by go_simp⟩) ?_
        simp only [Act.put, List.getElem_toArray, List.getElem_cons_zero, List.getElem_cons_succ, List.setIfInBounds_toArray, List.set_cons_zero, List.set_cons_succ]
        refine wpAny_take (i := 5) (v := .int .i64 (F : Int)) rfl (by kernel_rfl) (by kernel_rfl) (by kernel_rfl) (fun _ _ _ h => h) (Or.inl ⟨by rfl, fun W => by go_simp⟩) ?_
        simp only [Act.put, List.getElem_toArray, List.getElem_cons_zero, List.getElem_cons_succ, List.setIfInBounds_toArray, List.set_cons_zero, List.set_cons_succ]
        refine wpAny_take (i := 6) (v := .int .i64 ((F : Int) + 1)) rfl (by kernel_rfl) (by kernel_rfl) (by kernel_rfl) (fun _ _ _ h => h) (Or.inl ⟨by rfl, fun W => by go_simp⟩) ?_
        simp only [Act.put, List.getElem_toArray, List.getElem_cons_zero, List.getElem_cons_succ, List.setIfInBounds_toArray, List.set_cons_zero, List.set_cons_succ]
        refine wpAny_take (i := 7) (v := .string (s.extract (F + 1) s.size)) rfl (by kernel_rfl) (by kernel_rfl) (by kernel_rfl) (fun _ _ _ h => h) (Or.inl ⟨by rfl, fun W => by go_simp⟩) ?_
        simp only [Act.put, List.getElem_toArray, List.getElem_cons_zero, List.getElem_cons_succ, List.setIfInBounds_toArray, List.set_cons_zero, List.set_cons_succ]
        refine wpAny_take (i := 9) (v := .int .u8 c) rfl (by kernel_rfl) (by kernel_rfl) (by kernel_rfl) (fun _ _ _ h => h) (Or.inl ⟨by rfl, fun W => by go_simp⟩) ?_
        simp only [Act.put, List.getElem_toArray, List.getElem_cons_zero, List.getElem_cons_succ, List.setIfInBounds_toArray, List.set_cons_zero, List.set_cons_succ]
        refine wpAny_take (i := 10) (v := .bool q) rfl (by kernel_rfl) (by kernel_rfl) (by kernel_rfl) (fun _ _ _ h => h) (Or.inl ⟨by rfl, fun W => by go_simp⟩) ?_
        simp only [Act.put, List.getElem_toArray, List.getElem_cons_zero, List.getElem_cons_succ, List.setIfInBounds_toArray, List.set_cons_zero, List.set_cons_succ]
        refine wpAny_take (i := 11) (v := .int .u8 d) rfl (by kernel_rfl) (by kernel_rfl) (by kernel_rfl) (fun _ _ _ h => h) (Or.inl ⟨by rfl, fun W => by go_simp⟩) ?_
        simp only [Act.put, List.getElem_toArray, List.getElem_cons_zero, List.getElem_cons_succ, List.setIfInBounds_toArray, List.set_cons_zero, List.set_cons_succ]
        refine wpAny_take (i := 12) (v := .bool u) rfl (by kernel_rfl) (by kernel_rfl) (by kernel_rfl) (fun _ _ _ h => h) (Or.inl ⟨by rfl, fun W => by go_simp⟩) ?_
        simp only [Act.put, List.getElem_toArray, List.getElem_cons_zero, List.getElem_cons_succ, List.setIfInBounds_toArray, List.set_cons_zero, List.set_cons_succ]
        refine wpAny_ready (rs := [3]) (by kernel_rfl) (by simp) ?_
        refine AllReady.cons rfl (fun K hK => ?_) AllReady.nil
        go_simp
        go_wp2_with (go_at_call 46; refine (HCT.out _).mono ?_; rintro e w4 ⟨rfl, rfl⟩)
        refine wpAny_ready (rs := [8]) (by kernel_rfl) (by simp) ?_
        refine AllReady.cons rfl (fun K hK => ?_) AllReady.nil
        go_simp
        go_wp2_with (go_at_call 46; refine (HCU.out _).mono ?_; rintro e w4 ⟨rfl, rfl⟩)
        refine wpAny_take (i := 13) (v := .agg #[.string (tx T), .string (tx U), .bool q, .bool u]) rfl (by kernel_rfl) (by kernel_rfl) (by kernel_rfl) (fun _ _ _ h => h) (Or.inl ⟨by rfl, fun W => by go_simp⟩) ?_
        simp only [Act.put, List.getElem_toArray, List.getElem_cons_zero, List.getElem_cons_succ, List.setIfInBounds_toArray, List.set_cons_zero, List.set_cons_succ]
        obtain ⟨k0, k1, k2, k3⟩ := KB.rd XF0
        obtain ⟨f0, f1, f2, f3⟩ := KB.fz XF0
        refine wpAny_ready (rs := [14]) (by kernel_rfl) (by simp) ?_
        refine AllReady.cons rfl (fun K hK => ?_) AllReady.nil
        go_simp
        refine hK _ _ ?_
        clear hK K k0 k1 k2 k3 f0 f1 f2 f3
        refine wpAny_take (i := 15) (v := .bool true) rfl (by kernel_rfl) (by kernel_rfl) (by kernel_rfl) (fun _ _ _ h => h) (Or.inl ⟨by rfl, fun W => by go_simp⟩) ?_
        simp only [Act.put, List.getElem_toArray, List.getElem_cons_zero, List.getElem_cons_succ, List.setIfInBounds_toArray, List.set_cons_zero, List.set_cons_succ]
        refine wpAny_done (by kernel_rfl) ?_ _
        obtain ⟨k0, k1, k2, k3⟩ := KB.rd XF
        go_wp2_with fail
        refine bodyPost_ret (v := .tuple #[spV ⟨T, U, q, u⟩, .bool true]) ?_ rfl ⟨rfl, Lib.hid XF.out.2.drew⟩
        simp [results, Tryz.results30, go_sem, k0, k1, k2, k3]
end Go.Proofs.YtkphkcpckgdgaaaGreatDoor
