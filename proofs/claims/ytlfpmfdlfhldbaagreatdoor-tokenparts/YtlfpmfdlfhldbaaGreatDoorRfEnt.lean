/-
  The document's own answers (layer 2): what one between & and ; is; a text with its entities.
-/
import Derived.Test.YtlfpmfdlfhldbaaGreatDoorRfNum
namespace Nwl
open Go
theorem ne_list {s : ByteArray} {l : List UInt8} (h : bs s ≠ l) : (s.toList == l) = false := by
  rw [ByteArray.toList_eq, beq_eq_false_iff_ne]; exact h
theorem ne_list2 {s : ByteArray} {l : List UInt8} (h : bs s ≠ l) : ¬ s.toList = l := by
  rw [ByteArray.toList_eq]; exact h
theorem find_semi {s : ByteArray} {k : Nat} (hlt : k < s.size) (hc : s[k] = 38) : (cutL [59] ((bs s).drop (k + 1)) = none ∧ findI (bs s) [59] k = -1) ∨ (∃ e : Nat, k + 1 ≤ e ∧ e < s.size ∧ findI (bs s) [59] k = e ∧ cutL [59] ((bs s).drop (k + 1)) = some (bs (s.extract (k + 1) e), (bs s).drop (e + 1))) := by
  have hd : (bs s).drop k = 38 :: (bs s).drop (k + 1) := by
    rw [List.drop_eq_getElem_cons (by rw [bs_length]; exact hlt)]
    congr 1
  have hi : Lib.index ((bs s).drop k) [59] = if Lib.index ((bs s).drop (k + 1)) [59] == -1 then -1 else Lib.index ((bs s).drop (k + 1)) [59] + 1 := by
    rw [hd, Lib.index, if_neg (by simp [List.isPrefixOf])]
  rcases index_one ((bs s).drop (k + 1)) 59 with ⟨h1, _⟩ | ⟨j, h1, h2, _, _⟩
  · left
    rw [h1] at hi
    refine ⟨by unfold cutL; rw [h1, if_neg (by omega)], ?_⟩
    unfold findI
    rw [hi]
    simp
  · right
    rw [h1] at hi
    rw [List.length_drop, bs_length] at h2
    have hi2 : Lib.index ((bs s).drop k) [59] = (j : Int) + 1 := by
      rw [hi, if_neg (by simp)]
    refine ⟨k + 1 + j, by omega, by omega, ?_, ?_⟩
    · unfold findI
      rw [hi2, if_pos (by omega)]
      omega
    · unfold cutL
      rw [h1, if_pos (by omega), bs_extract]
      simp only [Int.toNat_natCast, List.length_singleton]
      rw [Nat.add_sub_cancel_left, List.drop_drop]
      congr 2
end Nwl
namespace Go.Proofs.YtlfpmfdlfhldbaaGreatDoor
open Nwl
open Go.RowKit Go.Maps
set_option linter.unusedVariables false

set_option maxRecDepth 100000 in
set_option maxHeartbeats 400000 in
theorem entity_n0 (w : World) : Calls Tryz.prog 22 #[.string ⟨#[108, 116]⟩] w (ChrPost (charL [108, 116]) w) := by
  have HX : Hid (charL [108, 116] = some 60) := Lib.hid (by decide)
  go_enter Tryz.func22, Tryz.ntmps22
  go_wp2_with fail
  go_ret2
  have HE : tx (Lib.encodeRune ((60 : Nat) : Int)) = ⟨#[60]⟩ := congrArg tx (show Lib.encodeRune ((60 : Nat) : Int) = [60] by decide)
  exact chrPost_some HX.out (by rw [HE]; rfl) (Below.refl _ _)

set_option maxRecDepth 100000 in
set_option maxHeartbeats 400000 in
theorem entity_n1 (w : World) : Calls Tryz.prog 22 #[.string ⟨#[103, 116]⟩] w (ChrPost (charL [103, 116]) w) := by
  have HX : Hid (charL [103, 116] = some 62) := Lib.hid (by decide)
  go_enter Tryz.func22, Tryz.ntmps22
  go_wp2_with fail
  go_ret2
  have HE : tx (Lib.encodeRune ((62 : Nat) : Int)) = ⟨#[62]⟩ := congrArg tx (show Lib.encodeRune ((62 : Nat) : Int) = [62] by decide)
  exact chrPost_some HX.out (by rw [HE]; rfl) (Below.refl _ _)

set_option maxRecDepth 100000 in
set_option maxHeartbeats 400000 in
theorem entity_n2 (w : World) : Calls Tryz.prog 22 #[.string ⟨#[97, 109, 112]⟩] w (ChrPost (charL [97, 109, 112]) w) := by
  have HX : Hid (charL [97, 109, 112] = some 38) := Lib.hid (by decide)
  go_enter Tryz.func22, Tryz.ntmps22
  go_wp2_with fail
  go_ret2
  have HE : tx (Lib.encodeRune ((38 : Nat) : Int)) = ⟨#[38]⟩ := congrArg tx (show Lib.encodeRune ((38 : Nat) : Int) = [38] by decide)
  exact chrPost_some HX.out (by rw [HE]; rfl) (Below.refl _ _)

set_option maxRecDepth 100000 in
set_option maxHeartbeats 400000 in
theorem entity_n3 (w : World) : Calls Tryz.prog 22 #[.string ⟨#[113, 117, 111, 116]⟩] w (ChrPost (charL [113, 117, 111, 116]) w) := by
  have HX : Hid (charL [113, 117, 111, 116] = some 34) := Lib.hid (by decide)
  go_enter Tryz.func22, Tryz.ntmps22
  go_wp2_with fail
  go_ret2
  have HE : tx (Lib.encodeRune ((34 : Nat) : Int)) = ⟨#[34]⟩ := congrArg tx (show Lib.encodeRune ((34 : Nat) : Int) = [34] by decide)
  exact chrPost_some HX.out (by rw [HE]; rfl) (Below.refl _ _)

set_option maxRecDepth 100000 in
set_option maxHeartbeats 400000 in
theorem entity_n4 (w : World) : Calls Tryz.prog 22 #[.string ⟨#[97, 112, 111, 115]⟩] w (ChrPost (charL [97, 112, 111, 115]) w) := by
  have HX : Hid (charL [97, 112, 111, 115] = some 39) := Lib.hid (by decide)
  go_enter Tryz.func22, Tryz.ntmps22
  go_wp2_with fail
  go_ret2
  have HE : tx (Lib.encodeRune ((39 : Nat) : Int)) = ⟨#[39]⟩ := congrArg tx (show Lib.encodeRune ((39 : Nat) : Int) = [39] by decide)
  exact chrPost_some HX.out (by rw [HE]; rfl) (Below.refl _ _)

set_option maxRecDepth 100000 in
set_option maxHeartbeats 1000000 in
theorem entity_c (s : ByteArray) (w : World) (hs : s.size ≤ 1000000) :
    Calls Tryz.prog 22 #[.string s] w (ChrPost (charL (bs s)) w) := by
  by_cases c0 : bs s = [108, 116]
  · have e : s = ⟨#[108, 116]⟩ := bs_inj c0
    subst e
    exact entity_n0 w
  by_cases c1 : bs s = [103, 116]
  · have e : s = ⟨#[103, 116]⟩ := bs_inj c1
    subst e
    exact entity_n1 w
  by_cases c2 : bs s = [97, 109, 112]
  · have e : s = ⟨#[97, 109, 112]⟩ := bs_inj c2
    subst e
    exact entity_n2 w
  by_cases c3 : bs s = [113, 117, 111, 116]
  · have e : s = ⟨#[113, 117, 111, 116]⟩ := bs_inj c3
    subst e
    exact entity_n3 w
  by_cases c4 : bs s = [97, 112, 111, 115]
  · have e : s = ⟨#[97, 112, 111, 115]⟩ := bs_inj c4
    subst e
    exact entity_n4 w
  have d0 := ne_list c0
  have f0 := ne_list2 c0
  have d1 := ne_list c1
  have f1 := ne_list2 c1
  have d2 := ne_list c2
  have f2 := ne_list2 c2
  have d3 := ne_list c3
  have f3 := ne_list2 c3
  have d4 := ne_list c4
  have f4 := ne_list2 c4
  have HC : Hid (charL (bs s) = if Lib.hasPrefix (bs s) [35, 120] then numL 16 ((bs s).drop 2) else if Lib.hasPrefix (bs s) [35] then numL 10 ((bs s).drop 1) else none) := Lib.hid (by
    unfold charL
    rw [if_neg c0, if_neg c1, if_neg c2, if_neg c3, if_neg c4])
  clear c0 c1 c2 c3 c4
  cases hp : Lib.hasPrefix (bs s) [35, 120] with
  | true =>
    have HX : Hid (charL (bs s) = numL 16 (bs (s.extract 2 s.size))) := Lib.hid (by rw [HC.out, hp, bs_from]; rfl)
    have hl := prefix_len hp
    rw [bs_length] at hl
    have hl2 : 2 ≤ s.size := hl
    have HP := Lib.hid hp
    clear hp hl HC
    go_enter Tryz.func22, Tryz.ntmps22
    go_wp2_with fail
    refine (begins_c' s ⟨#[35, 120]⟩ 0 _ hs (by decide) (by decide) (by decide)).mono ?_
    have hb : Nwl.bs ⟨#[35, 120]⟩ = [35, 120] := rfl
    rw [hb, List.drop_zero, HP.out]
    rintro e w' ⟨rfl, rfl⟩
    clear hb
    have hsz : (s.extract 2 s.size).size ≤ 1000000 := by rw [extract_size _ _ _ (Nat.le_refl _)]; omega
    go_wp2_with fail
    refine (number16_c _ _ hsz).mono ?_
    intro e w2 hp2
    rw [← HX.out] at hp2
    obtain ⟨he, hb2⟩ := hp2
    cases hc : charL (bs s) with
    | none =>
      rw [hc] at he
      subst he
      have HC2 := Lib.hid hc
      clear hc HX
      go_wp2_with fail
      go_ret2
      exact chrPost_none HC2.out rfl hb2
    | some v =>
      rw [hc] at he
      subst he
      have HC2 := Lib.hid hc
      clear hc HX
      go_wp2_with fail
      go_ret2
      exact chrPost_some HC2.out rfl hb2
  | false =>
    cases hq : Lib.hasPrefix (bs s) [35] with
    | true =>
      have HX : Hid (charL (bs s) = numL 10 (bs (s.extract 1 s.size))) := Lib.hid (by rw [HC.out, hp, hq, bs_from]; rfl)
      have hl := prefix_len hq
      rw [bs_length] at hl
      have hl2 : 1 ≤ s.size := hl
      have HP := Lib.hid hp
      have HQ := Lib.hid hq
      clear hp hq hl HC
      go_enter Tryz.func22, Tryz.ntmps22
      go_wp2_with fail
      refine (begins_c' s ⟨#[35, 120]⟩ 0 _ hs (by decide) (by decide) (by decide)).mono ?_
      have hb : Nwl.bs ⟨#[35, 120]⟩ = [35, 120] := rfl
      rw [hb, List.drop_zero, HP.out]
      rintro e w' ⟨rfl, rfl⟩
      clear hb
      go_wp2_with fail
      refine (begins_c' s ⟨#[35]⟩ 0 _ hs (by decide) (by decide) (by decide)).mono ?_
      have hb : Nwl.bs ⟨#[35]⟩ = [35] := rfl
      rw [hb, List.drop_zero, HQ.out]
      rintro e w' ⟨rfl, rfl⟩
      clear hb
      have hsz : (s.extract 1 s.size).size ≤ 1000000 := by rw [extract_size _ _ _ (Nat.le_refl _)]; omega
      go_wp2_with fail
      refine (number10_c _ _ hsz).mono ?_
      intro e w2 hp2
      rw [← HX.out] at hp2
      obtain ⟨he, hb2⟩ := hp2
      cases hc : charL (bs s) with
      | none =>
        rw [hc] at he
        subst he
        have HC2 := Lib.hid hc
        clear hc HX
        go_wp2_with fail
        go_ret2
        exact chrPost_none HC2.out rfl hb2
      | some v =>
        rw [hc] at he
        subst he
        have HC2 := Lib.hid hc
        clear hc HX
        go_wp2_with fail
        go_ret2
        exact chrPost_some HC2.out rfl hb2
    | false =>
      have HX : Hid (charL (bs s) = none) := Lib.hid (by rw [HC.out, hp, hq]; rfl)
      have HP := Lib.hid hp
      have HQ := Lib.hid hq
      clear hp hq HC
      go_enter Tryz.func22, Tryz.ntmps22
      go_wp2_with fail
      refine (begins_c' s ⟨#[35, 120]⟩ 0 _ hs (by decide) (by decide) (by decide)).mono ?_
      have hb : Nwl.bs ⟨#[35, 120]⟩ = [35, 120] := rfl
      rw [hb, List.drop_zero, HP.out]
      rintro e w' ⟨rfl, rfl⟩
      clear hb
      go_wp2_with fail
      refine (begins_c' s ⟨#[35]⟩ 0 _ hs (by decide) (by decide) (by decide)).mono ?_
      have hb : Nwl.bs ⟨#[35]⟩ = [35] := rfl
      rw [hb, List.drop_zero, HQ.out]
      rintro e w' ⟨rfl, rfl⟩
      clear hb
      go_wp2_with fail
      go_ret2
      exact chrPost_none HX.out rfl (Below.refl _ _)

theorem info_b8r : (Tryz.prog.info? 5).map (fun i => (i.zero, i.size, i.bytes)) = some (some (.int .u8 0), 1, 1) := by kernel_rfl
theorem drop_getr (s : ByteArray) (k : Nat) (h : k < s.size) : (bs s).drop k = s[k] :: (bs s).drop (k + 1) :=
  List.drop_eq_getElem_cons (by rw [bs_length]; exact h)
theorem own_below {w w' : World} {base : Nat} {e : TypeId} {size n : Nat} {v : Value} {xs : List Value} (h : w.ownsRow base e size v n xs) (hb : Below w.heap.size w w') : w'.ownsRow base e size v n xs := by
  refine ⟨h.1, ?_⟩
  rcases h.2 with h0 | ⟨g, cap, cur, hv, hB, hg, rest⟩
  · exact .inl h0
  · exact .inr ⟨g, cap, cur, hv, hB, (hb.block g (Array.getElem?_eq_some_iff.1 hg).1).trans hg, rest⟩
theorem own_form_r {w : World} {base : Nat} {e : TypeId} {size n : Nat} {v : Value} {xs : List Value} (h : w.ownsRow base e size v n xs) : ∃ A c, v = .slice A n c := by
  rcases h.2 with ⟨rfl, rfl⟩ | ⟨g', cap, cur, rfl, _⟩
  · exact ⟨_, _, rfl⟩
  · exact ⟨_, _, rfl⟩
theorem own_txt {w : World} {base : Nat} {v : Value} {l : List UInt8} (h : w.ownsRow base 5 1 v l.length (Lib.byteCells l)) : (convert 45 9 v).run Tryz.prog w = .ok (.string (tx l)) w := by
  rcases h.2 with ⟨rfl, h0⟩ | ⟨g, cap, cur, rfl, _, hg, _, _, _, htake⟩
  · have : l = [] := List.eq_nil_of_length_eq_zero h0
    subst this
    rw [run_convert_bytes_string w 45 9 5 none 0 0 Tryz.underlying45 Tryz.underlying5 Tryz.underlying9]
    rfl
  · refine run_convert_bytes_back (P := Tryz.prog) w 45 9 5 ⟨g, 0, none⟩ cap l Tryz.underlying45 Tryz.underlying5 Tryz.underlying9 (fun j hj => ?_)
    have := h.cells (g := g) rfl j (.int .u8 (l[j].toNat : Int)) (by simp [Lib.byteCells, hj])
    exact this
theorem cells_one_r (w : World) (x : Value) (t : TypeId) : ∀ j u, [x][j]? = some u → (w.alloc (.cells #[x] t)).cell? ((⟨w.heap.size, 0, none⟩ : Addr).add j) = some u := by
  intro j u hj
  match j, hj with
  | 0, hj => simp at hj; subst hj; simp [Addr.add]
  | j + 1, hj => simp at hj
/-- what Entities answers -/
def EntPost (x : Option (List UInt8)) (w : World) (e : Ending) (w' : World) : Prop :=
  (e = match x with
    | some v => .returned (.tuple #[.string (tx v), .int .i64 0])
    | none => .returned (.tuple #[.string ⟨#[]⟩, .int .i64 5])) ∧ Below w.heap.size w w'
theorem entPost_none {x : Option (List UInt8)} {w : World} {e : Ending} {w' : World} (h : x = none) (he : e = .returned (.tuple #[.string ⟨#[]⟩, .int .i64 5])) (hb : Below w.heap.size w w') : EntPost x w e w' := by subst h; exact ⟨he, hb⟩
theorem entPost_some {x : Option (List UInt8)} {w : World} {e : Ending} {w' : World} {v : List UInt8} (h : x = some v) (he : e = .returned (.tuple #[.string (tx v), .int .i64 0])) (hb : Below w.heap.size w w') : EntPost x w e w' := by subst h; exact ⟨he, hb⟩

set_option maxRecDepth 100000 in
set_option maxHeartbeats 1000000 in
theorem refEntities_c (s : ByteArray) (w : World) (hs : s.size ≤ 100000) :
    Calls Tryz.prog 9 #[.string s] w (EntPost (entL (bs s)) w) := by
  obtain ⟨i0, hi, hz0, hz1, hz2⟩ := info_parts info_b8r
  go_enter Tryz.func9, Tryz.ntmps9
  go_wp2_with fail
  go_loopw [4, 5] (fun ov iv wr => ∃ (k : Nat) (O : List UInt8), k ≤ s.size ∧ O.length ≤ 4 * k ∧ iv = .int .i64 k ∧ Hid (wr.ownsRow w.heap.size 5 1 ov O.length (Lib.byteCells O) ∧ Below w.heap.size w wr ∧ entL (bs s) = (entL ((bs s).drop k)).map (O ++ ·))) (fun _ iv _ => s.size - (intOf iv).toNat)
  case atStart => exact ⟨0, [], by omega, by simp, rfl, World.ownsRow_nil _ _ _ _, Below.refl _ _, by simp⟩
  case round =>
    obtain ⟨k, O, hk, hO4, rfl, hh⟩ := hrel
    obtain ⟨hown, hbel, hent⟩ := hh.out
    clear hh
    have HO := Lib.hid hown
    have HB := Lib.hid hbel
    have hbs := hbel.size
    obtain ⟨Ao, co, rfl⟩ := own_form_r hown
    clear hown hbel
    by_cases hlt : k < s.size
    · rw [drop_getr s k hlt] at hent
      by_cases hc : s[k] = 38
      · rw [hc, entL_amp] at hent
        have hcn : s[k].toNat = 38 := by rw [hc]; rfl
        rcases find_semi hlt hc with ⟨hcut, hf⟩ | ⟨e, he1, he2, hf, hcut⟩
        · have HX : Hid (entL (bs s) = none) := Lib.hid (by rw [hent]; unfold entAt; rw [hcut]; rfl)
          have HF := Lib.hid hf
          clear hent hcut hf hc
          go_wp2_with fail
          refine (find_c s ⟨#[59]⟩ k _ (by omega) (by decide) (by decide) (by omega)).mono ?_
          have hb : Nwl.bs ⟨#[59]⟩ = [59] := rfl
          rw [hb, HF.out]
          rintro e w' ⟨rfl, rfl⟩
          clear hb
          go_wp2_with fail
          go_ret2
          exact entPost_none HX.out rfl HB.out
        · have HF := Lib.hid hf
          have hxs : (s.extract (k + 1) e).size ≤ 1000000 := by rw [extract_size _ _ _ (by omega)]; omega
          obtain ⟨E, hE⟩ : ∃ E : Int, E = e := ⟨_, rfl⟩
          have HCUT := Lib.hid hcut
          clear hcut hf hc
          cases hch : charL (bs (s.extract (k + 1) e)) with
          | none =>
            have HX : Hid (entL (bs s) = none) := Lib.hid (by rw [hent]; unfold entAt; rw [HCUT.out]; simp only [hch]; rfl)
            have HCH := Lib.hid hch
            clear hent hch hE
            go_wp2_with fail
            refine (find_c s ⟨#[59]⟩ k _ (by omega) (by decide) (by decide) (by omega)).mono ?_
            have hb : Nwl.bs ⟨#[59]⟩ = [59] := rfl
            rw [hb, HF.out]
            rintro e w' ⟨rfl, rfl⟩
            clear hb
            go_wp2_with fail
            refine (entity_c _ _ hxs).mono ?_
            intro e w2 hp
            unfold ChrPost at hp
            rw [HCH.out] at hp
            obtain ⟨rfl, hb2⟩ := hp
            have HB2 : Hid (Below w.heap.size w w2) := Lib.hid (HB.out.trans (hb2.mono hbs))
            clear hb2
            go_wp2_with fail
            go_ret2
            exact entPost_none HX.out rfl HB2.out
          | some v =>
            have HE : Hid (entL (bs s) = (entL ((bs s).drop (e + 1))).map ((O ++ Lib.encodeRune v) ++ ·)) := Lib.hid (by
              rw [hent]
              unfold entAt
              rw [HCUT.out]
              simp only [hch, Option.map_map]
              congr 1
              funext q
              simp)
            have HCH := Lib.hid hch
            have h4 : (Lib.encodeRune (v : Int)).length ≤ 4 := by
              have := (Lib.runeCells_le (v : Int)).2
              rw [← Lib.byteCells_encodeRune, Lib.byteCells_length] at this
              exact this
            obtain ⟨R, hR⟩ : ∃ R, R = Lib.encodeRune (v : Int) := ⟨_, rfl⟩
            have HRR := Lib.hid hR
            rw [← hR] at HE h4
            have hRz : (tx R).size ≤ 4 := by rw [tx_size]; exact h4
            obtain ⟨m, hm⟩ : ∃ m, m = O.length := ⟨_, rfl⟩
            rw [← hm] at HO hO4 ⊢
            have HM := Lib.hid hm
            clear hent hch hE hR hm
            go_wp2_with fail
            refine (find_c s ⟨#[59]⟩ k _ (by omega) (by decide) (by decide) (by omega)).mono ?_
            have hb : Nwl.bs ⟨#[59]⟩ = [59] := rfl
            rw [hb, HF.out]
            rintro e w' ⟨rfl, rfl⟩
            clear hb
            go_wp2_with fail
            refine (entity_c _ _ hxs).mono ?_
            intro e w2 hp
            unfold ChrPost at hp
            rw [HCH.out] at hp
            obtain ⟨hee, hb2⟩ := hp
            simp only [← HRR.out] at hee
            subst hee
            have HB2 : Hid (Below w.heap.size w w2) := Lib.hid (HB.out.trans (hb2.mono hbs))
            have HO2 : Hid (w2.ownsRow w.heap.size 5 1 (.slice Ao m co) m (Lib.byteCells O)) := Lib.hid (own_below HO.out hb2)
            have hs2 := HB2.out.size
            clear hb2
            go_wp2_with (at_builtin; refine Lib.wpList_append_own_string _ rfl _ _ 45 9 rfl w.heap.size 5 i0 Tryz.underlying45 Tryz.underlying9 hi hz0 hz1 hz2 _ m (Lib.byteCells O) rfl HO2.out (tx R) rfl (by unfold maxLen; omega) (by omega) (by omega) ?_)
            intro v' w5 hown5 hgrow5 _
            have X : Hid (w5.ownsRow w.heap.size 5 1 v' (O ++ R).length (Lib.byteCells (O ++ R)) ∧ Below w.heap.size w w5) := Lib.hid (by
              refine ⟨?_, Below.grown HB2.out hgrow5 (by omega) (fun j hj => (HO2.out.lt _ hj).1)⟩
              rw [Lib.byteCells_append, List.length_append, ← HM.out, ← tx_size R]
              exact hown5)
            clear hown5 hgrow5
            go_wp2_with fail
            go_roundw
            case rel => exact ⟨e + 1, O ++ R, by omega, by rw [List.length_append, ← HM.out]; omega, by go_num, X.out.1, X.out.2, HE.out⟩
            case measure => simp [intOf]; omega
      · rw [entL_plain1 _ _ hc] at hent
        have HE : Hid (entL (bs s) = (entL ((bs s).drop (k + 1))).map ((O ++ [s[k]]) ++ ·)) := Lib.hid (by
          rw [hent, Option.map_map]
          congr 1
          funext q
          simp)
        have hcn : ¬ s[k].toNat = 38 := fun e => hc (by rw [← UInt8.toNat_inj]; exact e)
        have hcb : ((s[k].toNat : Int) == 38) = false := by rw [beq_eq_false_iff_ne]; omega
        obtain ⟨m, hm⟩ : ∃ m, m = O.length := ⟨_, rfl⟩
        rw [← hm] at HO hO4 ⊢
        have HM := Lib.hid hm
        clear hent hc hm
        go_wp2_with (at_builtin; refine wpList_append_own _ rfl _ _ 45 rfl w.heap.size 5 i0 _ 1 1 Tryz.underlying45 hi hz0 hz1 hz2 rfl (by decide) _ m (Lib.byteCells O) rfl (HO.out.alloc _) ⟨wr.heap.size, 0, none⟩ 1 1 [.int .u8 (s[k].toNat : Int)] rfl rfl (cells_one_r _ _ _) (by simp [Value.oneCell']) (by unfold maxLen; omega) (by omega) (by simp; omega) ?_)
        intro v' w5 hown5 hgrow5 _
        have X : Hid (w5.ownsRow w.heap.size 5 1 v' (O ++ [s[k]]).length (Lib.byteCells (O ++ [s[k]])) ∧ Below w.heap.size w w5) := Lib.hid (by
          refine ⟨?_, Below.grown (HB.out.alloc (by omega) _) hgrow5 (by simp; omega) (fun j hj => (HO.out.lt _ hj).1)⟩
          rw [Lib.byteCells_append, List.length_append, ← HM.out]
          exact hown5)
        clear hown5 hgrow5
        go_wp2_with fail
        go_roundw
        case rel => exact ⟨k + 1, O ++ [s[k]], by omega, by rw [List.length_append, ← HM.out]; simp; omega, by go_num, X.out.1, X.out.2, HE.out⟩
        case measure => simp [intOf]; omega
    · obtain rfl : k = s.size := by omega
      have HX : Hid (entL (bs s) = some O) := Lib.hid (by
        rw [hent, List.drop_eq_nil_of_le (by rw [bs_length]; exact Nat.le_refl _), entL_nil]
        simp)
      have hconv := own_txt HO.out
      clear hent
      go_wp2_with fail
      go_ret2
      exact entPost_some HX.out rfl HB.out
end Go.Proofs.YtlfpmfdlfhldbaaGreatDoor
