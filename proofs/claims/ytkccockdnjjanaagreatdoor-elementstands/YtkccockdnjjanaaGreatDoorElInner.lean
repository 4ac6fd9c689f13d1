/-
  The contract of Inner (layer 3): a builder's own writer once more, beside a row of places; awake.
-/
import Derived.Test.YtkccockdnjjanaaGreatDoorElKids
namespace Go.Proofs.YtkccockdnjjanaaGreatDoor
open Nwl
open Go.RowKit Go.Maps
set_option linter.unusedVariables false

/-- blocks that hold places stay -/
def KeepInt (w w' : World) : Prop := ∀ (k : Nat) (cs : Array Value), Blk w k 3 cs → Blk w' k 3 cs
theorem KeepInt.row {w w' : World} {B n : Nat} {v : Value} {xs : List Value} (h : w.ownsRow B 3 1 v n xs) (hk : KeepInt w w') : w'.ownsRow B 3 1 v n xs := by
  refine ⟨h.1, ?_⟩
  rcases h.2 with h0 | ⟨g, cap, cur, hv, hb, hg, rest⟩
  · exact .inl h0
  · exact .inr ⟨g, cap, cur, hv, hb, hk _ _ hg, rest⟩

theorem check_g (B b : Nat) (bs : List Value) (w : World) (h : Lib.IsBuilderF 47 5 B b bs w) :
    Calls Tryz.prog 49 #[.pointer (some ⟨b, 0, none⟩)] w fun e w' => e = .returned (.tuple #[]) ∧ Lib.BuilderAtF 47 5 B b (.pointer (some ⟨b, 0, none⟩)) bs w' ∧ Below B w w' ∧ w.grownBy w' (some b) := by
  rcases h with h | h
  · refine (check_fresh b w h.cell0 h.shape h.frozen0).mono ?_
    rintro e w' ⟨rfl, rfl⟩
    exact ⟨rfl, h.used _, (Below.refl B w).setCell (p := ⟨b, 0, none⟩) h.1 _, setCell_grown w b 0 _⟩
  · refine (check_used b w h.cell0).mono ?_
    rintro e w' ⟨rfl, rfl⟩
    exact ⟨rfl, h, Below.refl B _, World.grownBy.refl _ _⟩

set_option maxHeartbeats 2000000 in
set_option maxRecDepth 100000 in
theorem WriteString_g (B b : Nat) (l : List UInt8) (s : ByteArray) (w : World) (h : Bld B b l w) (hlen : l.length + s.size ≤ 140737488355328) (hBw : B ≤ w.heap.size) :
    Calls Tryz.prog 29 #[.pointer (some ⟨b, 0, none⟩), .string s] w fun e w' => e = .returned (.tuple #[.int .i64 s.size, .nilIface]) ∧ Bld B b (l ++ Nwl.bs s) w' ∧ Below B w w' ∧ KeepInt w w' := by
  have hbl : (Lib.byteCells l).length = l.length := Lib.byteCells_length l
  unfold Bld at h ⊢
  rw [Lib.byteCells_append]
  have hss : Lib.byteCells (Nwl.bs s) = Lib.strCells s := rfl
  rw [hss]
  generalize Lib.byteCells l = cs at h hbl ⊢
  rw [← hbl] at hlen
  clear hbl
  obtain ⟨i0, hi, hz0, hz1, hz2⟩ := info_parts info_b8
  go_enter Tryz.func29, Tryz.ntmps29
  go_wp2_with (go_at_call 49; refine (check_g B b cs _ h).mono ?_)
  rintro e w1 ⟨rfl, h1, hb1, hg1⟩
  have HG1 := Lib.hid hg1
  have HBB := Lib.hid h
  clear hg1
  obtain ⟨hB, v, hbk, hown, hne⟩ := h1
  have c0 : w1.cell? ⟨b, 0, none⟩ = some (.pointer (some ⟨b, 0, none⟩)) := by rw [Lib.cell_of_heap hbk]; rfl
  have c1 : w1.cell? ⟨b, 1, none⟩ = some v := by rw [Lib.cell_of_heap hbk]; rfl
  have hbs := hb1.size
  go_wp2_with (at_builtin; refine Lib.wpList_append_own_stringF _ rfl _ _ 45 9 rfl B 5 i0 Tryz.underlying45 Tryz.underlying9 hi hz0 hz1 hz2 _ _ _ rfl hown s rfl (by unfold maxLen; omega) (by omega) (by omega) ?_)
  intro v' w2 hown' hgrow _
  have hlt : b < w1.heap.size := by
    rcases Nat.lt_or_ge b w1.heap.size with h' | h'
    · exact h'
    · simp [Array.getElem?_eq_none h'] at hbk
  have hb2 : w2.heap[b]? = some (.cells #[.pointer (some ⟨b, 0, none⟩), v] 47 (0, 0)) := by
    rw [hgrow.block b hlt (fun e => hne e.symm)]
    exact hbk
  have d0 : w2.cell? ⟨b, 0, none⟩ = some (.pointer (some ⟨b, 0, none⟩)) := by rw [Lib.cell_of_heap hb2]; rfl
  have d1 : w2.cell? ⟨b, 1, none⟩ = some v := by rw [Lib.cell_of_heap hb2]; rfl
  have f1 : w2.frozen? ⟨b, 1, none⟩ = false := Lib.frozen_of_heap hb2 1
  obtain ⟨ao, n', cap, rfl⟩ : ∃ ao n' cap, v' = .slice ao n' cap := by
    rcases hown'.2 with ⟨hv, _⟩ | ⟨g, cap, cur, fz, hv, _⟩
    · exact ⟨_, _, _, hv⟩
    · exact ⟨_, _, _, hv⟩
  go_wp2
  go_ret2
  refine ⟨rfl, .inr ?_, ?_, ?_⟩
  · exact Lib.BuilderAtF.put (T := 47) (e := 5) hB hb2 (bs' := cs ++ Lib.strCells s) (by simpa [Lib.strCells_length] using hown') (by decide)
  · exact (hb1.grown hgrow (by omega) (fun k hk => (hown.lt k hk).1)).setCell (p := ⟨b, 1, none⟩) hB _
  · intro k ds hk
    have hb0 : ∃ q v, Blk w b 47 #[q, v] := by
      rcases HBB.out with ⟨_, v, hq, _⟩ | ⟨_, v, hq, _⟩ <;> exact ⟨_, _, hq⟩
    obtain ⟨q0, v0, hq0⟩ := hb0
    have k1 := hk.grown HG1.out (hk.apart hq0 (by decide))
    have k2 := k1.grown hgrow (fun e => own_neF hown k1 (by decide) e.symm)
    exact k2.grown (setCell_grown _ b 1 _) (k2.apart hb2 (by decide))

theorem RowR.mono {B B' : Nat} {w : World} {v : Value} {n size : Nat} {cs : List Value} (h : RowR B w v n size cs) (hB : B ≤ B') : RowR B' w v n size cs := by
  refine ⟨h.1, ?_⟩
  rcases h.2 with h0 | ⟨b, o, c, hv, hb, r⟩
  · exact .inl h0
  · exact .inr ⟨b, o, c, hv, by omega, r⟩
theorem NdiCells.mono {B B' : Nat} {w : World} (hB : B ≤ B') : ∀ {ts : List Nd} {cs : List Value}, NdiCells B w ts cs → NdiCells B' w ts cs
  | [], _, h => h
  | t :: ts, _, ⟨av, tl, e, h1, h2⟩ => ⟨av, tl, e, h1.mono hB, NdiCells.mono hB h2⟩
theorem NodesR.mono {B B' : Nat} {w : World} {v : Value} {ts : List Nd} (h : NodesR B w v ts) (hB : B ≤ B') : NodesR B' w v ts := by
  obtain ⟨cs, h1, h2⟩ := h
  exact ⟨cs, h1.mono hB, h2.mono hB⟩
theorem Bld.fresh_at {B b : Nat} {w : World} (hB : B ≤ b) (h : Blk w b 47 #[.pointer none, .slice none 0 0]) : Bld B b [] w := .inl ⟨hB, _, h, World.ownsRowF_nil _ _ _ _, by simp [Value.ownBlock]⟩

set_option maxRecDepth 100000 in
set_option maxHeartbeats 2000000 in
theorem Inner_c (ns : List Nd) (A : Option Addr) (n c : Nat) (i : Int) (w : World) (hr : NodesR w.heap.size w (.slice A n c) ns) (hn : n = ns.length) (hlen : n ≤ 1000000000000) (hs : (innerT ns i).length ≤ 140737488355328) :
    Calls Tryz.prog 16 #[.slice A n c, .int .i64 i] w fun e w' => e = .returned (.string (tx (innerT ns i))) ∧ Below w.heap.size w w' := by
  have HR := Lib.hid hr
  have HN := Lib.hid hn
  have HS := Lib.hid hs
  clear hr hn hs
  go_enter Tryz.func16, Tryz.ntmps16
  go_wp2_with fail
  have hb0 : Below w.heap.size w (w.alloc (.cells #[.pointer none, .slice none 0 0] 47)) := (Below.refl _ _).alloc (Nat.le_refl _) _
  have hsz0 : (w.alloc (.cells #[.pointer none, .slice none 0 0] 47)).heap.size = w.heap.size + 1 := by simp
  refine (Kids_c ns A n c i _ ((HR.out.below hb0).mono (by omega)) HN.out hlen).mono ?_
  rintro e w1 ⟨Ak, ck, rfl, hrow, hb1⟩
  have HROW := Lib.hid hrow
  have HBW : Hid (Below w.heap.size w w1) := Lib.hid (hb0.trans (hb1.mono (by omega)))
  have HBL : Hid (Bld w.heap.size w.heap.size [] w1) := Lib.hid (Bld.fresh_at (Nat.le_refl _) ((Blk.new w _ _).below hb1))
  have HLT := Lib.hid (fun j (h : j ∈ kidsL ns i) => kidsL_lt h)
  have hml := kidsL_len ns i
  rw [← HN.out] at hml
  have HI : Hid (innerT ns i = innersL ns (kidsL ns i)) := Lib.hid rfl
  clear hrow hb1 hb0 hsz0
  obtain ⟨ks, hks⟩ : ∃ ks, ks = kidsL ns i := ⟨_, rfl⟩
  rw [← hks] at HROW HLT HI hml ⊢
  clear hks
  obtain ⟨m, hm⟩ : ∃ m, m = ks.length := ⟨_, rfl⟩
  rw [← hm] at HROW hml ⊢
  have HM := Lib.hid hm
  clear hm
  go_wp2_with fail
  go_loopw [12] (fun j wr => ∃ q : Nat, q ≤ m ∧ j = .int .i64 q ∧ Hid (Bld w.heap.size w.heap.size (innersL ns (ks.take q)) wr ∧ Below w.heap.size w wr ∧ wr.ownsRow (w.alloc (.cells #[.pointer none, .slice none 0 0] 47)).heap.size 3 1 (.slice Ak m ck) m (placesC ks))) (fun j _ => m - (intOf j).toNat)
  case atStart => exact ⟨0, Nat.zero_le _, rfl, HBL.out, HBW.out, HROW.out⟩
  case round =>
    obtain ⟨q, hq, rfl, hh⟩ := hrel
    obtain ⟨hbl, hbel, hrw⟩ := hh.out
    clear hh HROW HBW HBL
    have HBL := Lib.hid hbl
    have HB := Lib.hid hbel
    have HRW := Lib.hid hrw
    have hbs := hbel.size
    clear hbl hbel
    by_cases hqm : q < m
    · have hqk : q < ks.length := by have := HM.out; omega
      obtain ⟨gk, capk, hvk, _, hcapk, hck⟩ := row_cells hrw (by omega)
      injection hvk with hAk _ hcc
      subst hAk hcc
      have hkn := HLT.out _ (List.getElem_mem hqk)
      have eq0 : wr.cell? ⟨gk, q, none⟩ = some (.int .i64 ((ks[q] : Nat) : Int)) := hck q _ (by simp [placesC, hqk])
      obtain ⟨b, o, A2, l2, c2, hA, hra, e0, e1, e2, e3⟩ := (HR.out.below HB.out).at (ks[q]) hkn
      subst hA
      have hsuc := innersL_succ ns ks q hqk
      have htx : textOf ns ks[q] = if (ns[ks[q]]).name = [] then (ns[ks[q]]).text else [] := by unfold textOf; rw [List.getElem?_eq_getElem hkn]
      have hkn2 : ks[q] < n := by have := HN.out; omega
      have hle : (innersL ns (ks.take (q + 1))).length ≤ 140737488355328 := by
        have h1 := HS.out
        rw [HI.out] at h1
        have h2 : innersL ns ks = innersL ns (ks.take (q + 1)) ++ innersL ns (ks.drop (q + 1)) := by unfold innersL; rw [← List.flatMap_append, List.take_append_drop]
        rw [h2, List.length_append] at h1
        omega
      have HSUC := Lib.hid hsuc
      have HTX := Lib.hid htx
      have HLE := Lib.hid hle
      clear hsuc htx hle hra hrw hck
      by_cases hnm : (ns[ks[q]]).name = []
      · have HX : Hid (innersL ns (ks.take (q + 1)) = innersL ns (ks.take q) ++ (ns[ks[q]]).text) := Lib.hid (by rw [HSUC.out, HTX.out, if_pos hnm])
        have HLX : Hid ((innersL ns (ks.take q)).length + (tx (ns[ks[q]]).text).size ≤ 140737488355328) := Lib.hid (by have := HLE.out; rw [HX.out, List.length_append] at this; rw [tx_size]; exact this)
        have he : (tx (ns[ks[q]]).name).toList = [] := toList_nil_of _ (by rw [hnm, tx_size]; rfl)
        obtain ⟨nq, hnq⟩ : ∃ x, x = tx (ns[ks[q]]).name := ⟨_, rfl⟩
        obtain ⟨t, ht⟩ : ∃ x, x = (ns[ks[q]]).text := ⟨_, rfl⟩
        rw [← hnq] at e1 he
        rw [← ht] at e2 HX HLX
        clear HTX HSUC hnm hnq ht
        obtain ⟨K, hK⟩ : ∃ K, K = ks[q] := ⟨_, rfl⟩
        simp only [← hK] at eq0 e0 e1 e2 e3 hkn2
        clear hK hkn hqk e0 HLE
        go_wp2_with fail
        refine (WriteString_g _ _ _ _ _ HBL.out HLX.out (by omega)).mono ?_
        rintro e w2 ⟨rfl, hbl2, hb2, hki⟩
        have X : Hid (Bld w.heap.size w.heap.size (innersL ns (ks.take (q + 1))) w2 ∧ Below w.heap.size w w2 ∧ w2.ownsRow (w.alloc (.cells #[.pointer none, .slice none 0 0] 47)).heap.size 3 1 (.slice (some ⟨gk, 0, none⟩) m ck) m (placesC ks)) := Lib.hid ⟨by rw [HX.out]; exact hbl2, HB.out.trans hb2, KeepInt.row HRW.out hki⟩
        clear hbl2 hb2 hki
        go_wp2_with fail
        go_roundw
        case rel => exact ⟨q + 1, by omega, by go_num, X.out⟩
        case measure => simp [intOf]; omega
      · have HX : Hid (innersL ns (ks.take (q + 1)) = innersL ns (ks.take q)) := Lib.hid (by rw [HSUC.out, HTX.out, if_neg hnm, List.append_nil])
        have he : ¬ (tx (ns[ks[q]]).name).toList = [] := toList_ne_of _ (by rw [tx_size]; exact List.length_pos_iff.2 hnm)
        have he2 : (tx (ns[ks[q]]).name).toList.isEmpty = false := by simpa using he
        obtain ⟨nq, hnq⟩ : ∃ x, x = tx (ns[ks[q]]).name := ⟨_, rfl⟩
        obtain ⟨t, ht⟩ : ∃ x, x = (ns[ks[q]]).text := ⟨_, rfl⟩
        rw [← hnq] at e1 he he2
        rw [← ht] at e2
        clear HTX HSUC hnm hnq ht
        obtain ⟨K, hK⟩ : ∃ K, K = ks[q] := ⟨_, rfl⟩
        simp only [← hK] at eq0 e0 e1 e2 e3 hkn2
        clear hK hkn hqk e0 HLE
        go_wp2_with fail
        go_roundw
        case rel => exact ⟨q + 1, by omega, by go_num, by rw [HX.out]; exact HBL.out, HB.out, HRW.out⟩
        case measure => simp [intOf]; omega
    · obtain rfl : q = m := by omega
      have HT : Hid (innersL ns (ks.take q) = innerT ns i) := Lib.hid (by rw [HI.out, HM.out, List.take_length])
      clear hrw
      go_wp2_with fail
      refine (String_c _ _ _ _ HBL.out (by omega)).mono ?_
      rintro e w2 ⟨rfl, hb2⟩
      go_wp2_with fail
      go_ret
      exact ⟨by rw [HT.out]; rfl, HB.out.trans hb2⟩
end Go.Proofs.YtkccockdnjjanaaGreatDoor
