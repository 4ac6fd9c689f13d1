/-
  Layer 4: the writer's calls: node.
-/
import Derived.Test.YtkccockdnjjanaaMkLeave
namespace Nwl
theorem nodeW_text {ns : List Nd} {i : Nat} (hi : i < ns.length) (h : (ns[i]).name = []) : nodeW ns i = escL (ns[i]).text ∧ openW ns i = parAt ns i := by
  unfold nodeW openW textB
  rw [nd_eq ns i hi, if_pos (by simpa using h), if_pos (by simpa using h)]
  exact ⟨rfl, rfl⟩
theorem nodeW_elem {ns : List Nd} {i : Nat} (hi : i < ns.length) (h : ¬ (ns[i]).name = []) : nodeW ns i = [60] ++ (ns[i]).name ++ attrsW (ns[i]).attrs ++ (if kidsB ns i then [62] else [47, 62]) ∧ openW ns i = if kidsB ns i then (i : Int) else parAt ns i := by
  have hd : ¬ (decide ((ns[i]).name = []) = true) := by simpa using h
  unfold nodeW openW textB headW
  rw [nd_eq ns i hi]
  exact ⟨if_neg hd, if_neg hd⟩
theorem attrsW_take (l : List (List UInt8 × List UInt8)) (k : Nat) (h : k < l.length) : attrsW (l.take (k + 1)) = attrsW (l.take k) ++ attrW l[k] := by
  rw [List.take_succ_eq_append_getElem h, attrsW_snoc]
theorem attrsW_len (l : List (List UInt8 × List UInt8)) (k : Nat) (h : k < l.length) : (attrsW (l.take k)).length + (attrW l[k]).length ≤ (attrsW l).length := by
  have e : attrsW l = attrsW (l.take (k + 1)) ++ attrsW (l.drop (k + 1)) := by
    unfold attrsW
    rw [← List.flatMap_append, List.take_append_drop]
  rw [e, attrsW_take l k h]
  simp only [List.length_append]
  omega
end Nwl
namespace Go.Proofs.Ytkccockdnjjanaa
open Nwl
open Go.RowKit Go.Maps
set_option linter.unusedVariables false
theorem WrV.belowH {B b : Nat} {vn vo p vb : Value} {run : List UInt8} {w w' : World} (h : WrV B b vn vo p vb run w) (hb : Below w.heap.size w w') : WrV B b vn vo p vb run w' :=
  h.same ⟨hb.os, hb.tape, hb.output, hb.size, fun k hk _ => hb.block k hk⟩
/-- where the writing of a node stands -/
structure NwAt (B b X : Nat) (vn vo : Value) (cs : Array Value) (run : List UInt8) (w w' : World) : Prop where
  st : ∃ p vb, WrV B b vn vo p vb run w'
  bel : Below B w w'
  box : Blk w' X 32 cs
section
variable {B b X : Nat} {vn vo : Value} {cs : Array Value} {run run' : List UInt8} {w w1 w2 : World}
theorem NwAt.lt (h : NwAt B b X vn vo cs run w w1) : B ≤ w1.heap.size := by
  obtain ⟨p, vb, hv⟩ := h.st
  have := hv.lt
  have := hv.base
  omega
theorem NwAt.on (h : NwAt B b X vn vo cs run w w1) (hb : Below w1.heap.size w1 w2) : NwAt B b X vn vo cs run w w2 := by
  obtain ⟨p, vb, hv⟩ := h.st
  exact ⟨⟨p, vb, hv.belowH hb⟩, h.bel.trans (hb.mono h.lt), h.box.below hb⟩
theorem NwAt.alloc (h : NwAt B b X vn vo cs run w w1) (o : Obj) : NwAt B b X vn vo cs run w (w1.alloc o) := h.on ((Below.refl _ _).alloc (Nat.le_refl _) _)
theorem NwAt.draw (h : NwAt B b X vn vo cs run w w1) : NwAt B b X vn vo cs run w w1.drew := h.on (Below.refl _ _).drew
theorem NwAt.wrote (h : NwAt B b X vn vo cs run w w1) (hs : ∃ p vb, WrV B b vn vo p vb run' w2) (hb : Below B w1 w2) (hk : Keep w1 w2) : NwAt B b X vn vo cs run' w w2 :=
  ⟨hs, h.bel.trans hb, hk _ _ _ (by decide) (by decide) h.box⟩
end
/-- pieces are written, of a row that was made right ahead -/
theorem write_n {B b X c n g : Nat} {vn vo : Value} {cs : Array Value} {run : List UInt8} {w w1 : World} (h : NwAt B b X vn vo cs run w w1) (ps : List (List UInt8)) (hp : Blk w1 g 9 (pcs ps)) (hn : n = ps.length) (hl : run.length + ps.flatten.length ≤ 140737488355328) (hn2 : n ≤ 100) :
    Calls Try.prog 22 #[.pointer (some ⟨b, 0, none⟩), .slice (some ⟨g, 0, none⟩) n c] w1 fun e w' => e = .returned (.tuple #[]) ∧ NwAt B b X vn vo cs (run ++ ps.flatten) w w' ∧ Keep w1 w' := by
  obtain ⟨p, vb, hv⟩ := h.st
  refine (write_c B b g c n vn vo p vb run ps w1 hv hp hn hl hn2).mono ?_
  rintro e w2 ⟨rfl, st, hb, hk⟩
  exact ⟨rfl, h.wrote st hb hk, hk⟩
theorem pcs_new (w : World) (ps : List (List UInt8)) (vs : Array Value) (h : vs = pcs ps) : Blk (w.alloc (.cells vs 9)) w.heap.size 9 (pcs ps) := by
  subst h
  exact Blk.new w _ _

set_option maxRecDepth 100000 in
set_option maxHeartbeats 4000000 in
theorem node_text (B b : Nat) (A : Option Addr) (n c i : Nat) (p vb : Value) (run : List UInt8) (ns : List Nd) (w : World) (h : WrV B b (.slice A n c) (.int .i64 (openTo ns i)) p vb run w) (hr : NodesR B w (.slice A n c) ns) (hn : n = ns.length) (hp : Par ns i) (hi : i < n) (hup : parAt ns i = -1 ∨ parAt ns i ∈ chainL ns (openTo ns i)) (hlen : n ≤ 1000000000000) (hs : bulkN (nd ns i) ≤ 2000000)
    (hl : (run ++ closeW ns (openTo ns i) (parAt ns i) ++ nodeW ns i).length ≤ 140737488355328) (hit : i < ns.length) (htx : (ns[i]).name = []) :
    Calls Try.prog 13 #[.pointer (some ⟨b, 0, none⟩), .int .i64 (i : Int)] w fun e w' => e = .returned (.tuple #[]) ∧ (∃ p' vb', WrV B b (.slice A n c) (.int .i64 (openW ns i)) p' vb' (run ++ closeW ns (openTo ns i) (parAt ns i) ++ nodeW ns i) w') ∧ Below B w w' := by
  obtain ⟨nb, no, A2, l2, c2, rfl, hbB, hl2, hra, e0, e1, e2, e3⟩ := hr.full i hit
  obtain ⟨hW, hO⟩ := nodeW_text hit htx
  rw [hW] at hl ⊢
  rw [hO]
  have hob := openTo_bound hp (i := i) (Nat.le_refl _)
  have hl1 : (run ++ closeW ns (openTo ns i) (parAt ns i)).length ≤ 140737488355328 := by rw [List.length_append] at hl; omega
  have hxs : (ns[i]).text.length ≤ 2000000 := by
    rw [nd_eq ns i hit] at hs
    unfold bulkN at hs
    omega
  have hd : decide ((ns[i]).name = []) = true := by simp [htx]
  have HBX : Hid (WrV B b (.slice (some ⟨nb, no, none⟩) n c) (.int .i64 (openTo ns i)) p vb run (w.alloc (.cells #[.int .i64 (parAt ns i), .string (tx (ns[i]).name), .string (tx (ns[i]).text), .slice A2 l2 c2] 32))) := Lib.hid (h.alloc _)
  have HBN := Lib.hid (Blk.new w 32 #[.int .i64 (parAt ns i), .string (tx (ns[i]).name), .string (tx (ns[i]).text), .slice A2 l2 c2])
  have hBw : B ≤ w.heap.size := by have := h.lt; have := h.base; omega
  have HB1 : Hid (Below B w (w.alloc (.cells #[.int .i64 (parAt ns i), .string (tx (ns[i]).name), .string (tx (ns[i]).text), .slice A2 l2 c2] 32))) := Lib.hid ((Below.refl _ _).alloc hBw _)
  have c0 := h.blk.cell 0
  have HR := Lib.hid hr
  have HN := Lib.hid hn
  have HP := Lib.hid hp
  have HUP := Lib.hid hup
  clear h hr hn hp hup hra hl2 hW hO htx hs
  generalize (ns[i]).name = nm at *
  generalize (ns[i]).text = xt at *
  obtain ⟨q, hq⟩ : ∃ q, q = parAt ns (i : Int) := ⟨_, rfl⟩
  rw [← hq] at e0 hl hl1 HBX HBN HB1 HUP ⊢
  clear hq
  go_enter Try.func13, Try.ntmps13
  go_wp2_with fail
  refine (leave_c B b _ n c i _ q p vb run ns _ HBX.out (HR.out.below HB1.out) HN.out HP.out (by omega) hob.1 hob.2 HUP.out hlen hl1).mono ?_
  rintro e w1 ⟨rfl, st1, hb1, hk1⟩
  have HS1 : Hid (NwAt B b w.heap.size (.slice (some ⟨nb, no, none⟩) n c) (.int .i64 q) #[.int .i64 q, .string (tx nm), .string (tx xt), .slice A2 l2 c2] (run ++ closeW ns (openTo ns i) q) w w1) := Lib.hid ⟨st1, HB1.out.trans hb1, hk1 _ _ _ (by decide) (by decide) HBN.out⟩
  clear st1 hb1 hk1
  have x0 := HS1.out.box.cell 0
  have x1 := HS1.out.box.cell 1
  have x2 := HS1.out.box.cell 2
  have x3 := HS1.out.box.cell 3
  go_wp2_with fail
  refine (isText_b _ _ _ _ _ _ _ true hd).mono ?_
  rintro e w2 ⟨rfl, hb2⟩
  have HS2 := Lib.hid (HS1.out.on hb2)
  clear hb2 x0 x1 x2 x3
  have y2 := HS2.out.box.cell 2
  go_wp2_with fail
  refine (mEscape_c (tx xt) _ (by rw [tx_size]; omega)).mono ?_
  rintro e w3 ⟨rfl, hb3⟩
  have HS3 := Lib.hid (HS2.out.on hb3)
  clear hb3 y2
  go_wp2_with fail
  refine (write_n (HS3.out.alloc _) [escL xt] (pcs_new _ _ _ rfl) rfl (by simp only [List.flatten_cons, List.flatten_nil, List.append_nil]; rw [List.length_append] at hl; exact hl) (by simp)).mono ?_
  rintro e w4 ⟨rfl, hs4, _⟩
  have HS4 := Lib.hid hs4
  clear hs4
  go_wp2_with fail
  obtain ⟨⟨p4, vb4, hv4⟩, hb4, _⟩ := HS4.out
  exact bodyPost_ret (v := .tuple #[]) (by simp [results, Try.results13]) rfl ⟨rfl, ⟨p4, vb4, by simpa using hv4⟩, hb4⟩

theorem hasKids_b (B b : Nat) (A : Option Addr) (n c i : Nat) (vo p vb : Value) (run : List UInt8) (ns : List Nd) (w : World) (r : Bool) (hrr : kidsB ns i = r) (h : WrV B b (.slice A n c) vo p vb run w) (hr : NodesR B w (.slice A n c) ns) (hn : n = ns.length) (hi : i < n) (hlen : n ≤ 1000000000000) :
    Calls Try.prog 24 #[.pointer (some ⟨b, 0, none⟩), .int .i64 (i : Int)] w fun e w' => e = .returned (.bool r) ∧ w = w' := by
  subst hrr
  exact hasKids_c B b A n c i vo p vb run ns w h hr hn hi hlen

/-- where the writing of a node's attributes stands -/
structure AwAt (B b X : Nat) (vn vo : Value) (cs : Array Value) (run : List UInt8) (at_ : List (List UInt8 × List UInt8)) (w : World) (k : Nat) (w' : World) : Prop where
  nw : NwAt B b X vn vo cs (run ++ attrsW (at_.take k)) w w'

set_option maxRecDepth 100000 in
set_option maxHeartbeats 4000000 in
theorem node_elem (B b : Nat) (A : Option Addr) (n c i : Nat) (p vb : Value) (run : List UInt8) (ns : List Nd) (w : World) (h : WrV B b (.slice A n c) (.int .i64 (openTo ns i)) p vb run w) (hr : NodesR B w (.slice A n c) ns) (hn : n = ns.length) (hp : Par ns i) (hi : i < n) (hup : parAt ns i = -1 ∨ parAt ns i ∈ chainL ns (openTo ns i)) (hlen : n ≤ 1000000000000) (hs : bulkN (nd ns i) ≤ 2000000)
    (hl : (run ++ closeW ns (openTo ns i) (parAt ns i) ++ nodeW ns i).length ≤ 140737488355328) (hit : i < ns.length) (htx : ¬ (ns[i]).name = []) :
    Calls Try.prog 13 #[.pointer (some ⟨b, 0, none⟩), .int .i64 (i : Int)] w fun e w' => e = .returned (.tuple #[]) ∧ (∃ p' vb', WrV B b (.slice A n c) (.int .i64 (openW ns i)) p' vb' (run ++ closeW ns (openTo ns i) (parAt ns i) ++ nodeW ns i) w') ∧ Below B w w' := by
  obtain ⟨nb, no, A2, l2, c2, rfl, hbB, hl2, hra, e0, e1, e2, e3⟩ := hr.full i hit
  obtain ⟨hW, hO⟩ := nodeW_elem hit htx
  rw [hW] at hl ⊢
  rw [hO]
  have hob := openTo_bound hp (i := i) (Nat.le_refl _)
  have hl1 : (run ++ closeW ns (openTo ns i) (parAt ns i)).length ≤ 140737488355328 := by rw [List.length_append] at hl; omega
  have hbk : (ns[i]).name.length + (ns[i]).text.length + ((ns[i]).attrs.map fun a => a.1.length + a.2.length + 1).sum ≤ 2000000 := by
    rw [nd_eq ns i hit] at hs
    exact hs
  have hd : decide ((ns[i]).name = []) = false := by simp [htx]
  have HBX : Hid (WrV B b (.slice (some ⟨nb, no, none⟩) n c) (.int .i64 (openTo ns i)) p vb run (w.alloc (.cells #[.int .i64 (parAt ns i), .string (tx (ns[i]).name), .string (tx (ns[i]).text), .slice A2 l2 c2] 32))) := Lib.hid (h.alloc _)
  have HBN := Lib.hid (Blk.new w 32 #[.int .i64 (parAt ns i), .string (tx (ns[i]).name), .string (tx (ns[i]).text), .slice A2 l2 c2])
  have hBw : B ≤ w.heap.size := by have := h.lt; have := h.base; omega
  have HB1 : Hid (Below B w (w.alloc (.cells #[.int .i64 (parAt ns i), .string (tx (ns[i]).name), .string (tx (ns[i]).text), .slice A2 l2 c2] 32))) := Lib.hid ((Below.refl _ _).alloc hBw _)
  have c0 := h.blk.cell 0
  have HR := Lib.hid hr
  have HN := Lib.hid hn
  have HP := Lib.hid hp
  have HUP := Lib.hid hup
  have HRA := Lib.hid hra
  have HL2 := Lib.hid hl2
  have HBS := h.base
  clear h hr hn hp hup hra hW hO htx hs
  generalize (ns[i]).name = nm at *
  generalize (ns[i]).text = xt at *
  generalize (ns[i]).attrs = at_ at *
  have hat := len_sum at_
  have HSUM : Hid ((at_.map fun a => a.1.length + a.2.length + 1).sum ≤ 2000000) := Lib.hid (by omega)
  have hl2n : l2 ≤ 2000000 := by omega
  clear hl2 hat hbk
  obtain ⟨q, hq⟩ : ∃ q, q = parAt ns (i : Int) := ⟨_, rfl⟩
  rw [← hq] at e0 hl hl1 HBX HBN HB1 HUP ⊢
  clear hq
  obtain ⟨R, hR⟩ : ∃ R, R = run ++ closeW ns (openTo ns i) q := ⟨_, rfl⟩
  rw [← hR] at hl hl1 ⊢
  have HRR := Lib.hid hR
  clear hR
  obtain ⟨Z, hZ⟩ : ∃ Z : List UInt8, Z = (if kidsB ns i = true then [62] else [47, 62]) := ⟨_, rfl⟩
  obtain ⟨O, hO⟩ : ∃ O : Int, O = (if kidsB ns i = true then (i : Int) else q) := ⟨_, rfl⟩
  rw [← hZ] at hl ⊢
  rw [← hO]
  have hZ1 : 1 ≤ Z.length := by rw [hZ]; split <;> simp
  have HZ := Lib.hid hZ
  have HO := Lib.hid hO
  clear hZ hO
  have hl3 : R.length + ([60] ++ nm ++ attrsW at_).length + 2 ≤ 140737488355328 + 1 := by
    rw [List.length_append, List.length_append] at hl
    omega
  have hl4 : R.length + nm.length + 1 + (attrsW at_).length ≤ 140737488355328 := by
    simp only [List.length_append, List.length_cons, List.length_nil] at hl3
    omega
  go_enter Try.func13, Try.ntmps13
  go_wp2_with fail
  refine (leave_c B b _ n c i _ q p vb run ns _ HBX.out (HR.out.below HB1.out) HN.out HP.out (by omega) hob.1 hob.2 HUP.out hlen (by rw [← HRR.out]; exact hl1)).mono ?_
  rintro e w1 ⟨rfl, st1, hb1, hk1⟩
  rw [← HRR.out] at st1
  have HS1 : Hid (NwAt B b w.heap.size (.slice (some ⟨nb, no, none⟩) n c) (.int .i64 q) #[.int .i64 q, .string (tx nm), .string (tx xt), .slice A2 l2 c2] R w w1) := Lib.hid ⟨st1, HB1.out.trans hb1, hk1 _ _ _ (by decide) (by decide) HBN.out⟩
  clear st1 hb1 hk1
  have x0 := HS1.out.box.cell 0
  have x1 := HS1.out.box.cell 1
  have x2 := HS1.out.box.cell 2
  have x3 := HS1.out.box.cell 3
  go_wp2_with fail
  refine (isText_b _ _ _ _ _ _ _ false hd).mono ?_
  rintro e w2 ⟨rfl, hb2⟩
  have HS2 := Lib.hid (HS1.out.on hb2)
  clear hb2 x0 x1 x2 x3
  have y1 := HS2.out.box.cell 1
  go_wp2_with fail
  refine (write_n (HS2.out.alloc _) [[60], nm] (pcs_new _ _ _ rfl) rfl (by simp only [List.flatten_cons, List.flatten_nil, List.append_nil, List.length_append, List.length_cons, List.length_nil]; omega) (by simp)).mono ?_
  rintro e w3 ⟨rfl, hs3, _⟩
  obtain ⟨R2, hR2⟩ : ∃ R2, R2 = R ++ [[60], nm].flatten := ⟨_, rfl⟩
  rw [← hR2] at hs3
  have hR2l : R2.length = R.length + nm.length + 1 := by rw [hR2]; simp; omega
  have HR2 := Lib.hid hR2
  have HS3 := Lib.hid hs3
  clear hs3 hR2 y1
  have y3 := HS3.out.box.cell 3
  go_wp2_with fail
  go_loopw [34] (fun j wr => ∃ k : Nat, k ≤ l2 ∧ j = .int .i64 k ∧ Hid (AwAt B b w.heap.size (.slice (some ⟨nb, no, none⟩) n c) (.int .i64 q) #[.int .i64 q, .string (tx nm), .string (tx xt), .slice A2 l2 c2] R2 at_ w k wr)) (fun j _ => l2 - (intOf j).toNat)
  case atStart => exact ⟨0, Nat.zero_le _, rfl, ⟨by simpa [attrsW] using HS3.out⟩⟩
  case round =>
    obtain ⟨k, hk, rfl, hh⟩ := hrel
    by_cases hkn : k < l2
    · have hka : k < at_.length := by have := HL2.out; omega
      obtain ⟨d0, d1⟩ := attrCells_at at_ k hka
      have HX := Lib.hid (attrsW_take at_ k hka)
      have hxl := attrsW_len at_ k hka
      have hsum := sum_get at_ k hka
      obtain ⟨ab, ao, ac, hv, habB, hac, hcell⟩ := (HRA.out.below hh.out.nw.bel).some (by omega)
      have g0 := hcell _ _ d0
      have g1 : wr.cell? ⟨ab, ao + k * 2 + 1, none⟩ = some (.string (tx (at_[k]).2)) := hcell _ _ d1
      injection hv with hA h2 h3
      subst hA
      subst h3
      clear h2 hcell d0 d1
      have hs1 := HSUM.out
      generalize at_[k] = a at *
      obtain ⟨an, av⟩ := a
      simp only at g0 g1 hxl hsum HX
      have hav : (tx av).size ≤ 20000000000000 := by rw [tx_size]; omega
      have HAV := Lib.hid hav
      have hwl : R2.length + (attrsW (at_.take k)).length + (attrW (an, av)).length ≤ 140737488355328 := by omega
      have HWB : Hid ((R2 ++ attrsW (at_.take k)).length + [[32], an, [61, 34], escL av, [34]].flatten.length ≤ 140737488355328) := Lib.hid (by
        unfold attrW at hwl
        simp only [List.length_append, List.flatten_cons, List.flatten_nil, List.length_cons, List.length_nil] at hwl ⊢
        omega)
      clear hav hwl hxl hsum hs1
      have HSA := Lib.hid (hh.out.nw.alloc (.cells #[.string (tx an), .string (tx av)] 56)).draw
      have HAB : Hid (Blk (wr.alloc (.cells #[.string (tx an), .string (tx av)] 56)).drew wr.heap.size 56 #[.string (tx an), .string (tx av)]) := Lib.hid (Blk.new wr _ _)
      have t0 := HAB.out.cell 0
      have t1 := HAB.out.cell 1
      go_wp2_with fail
      go_region_held3 (fun w' => w'.cell? ⟨wr.heap.size, 0, none⟩ = some (.string (tx an)) ∧ w'.cell? ⟨wr.heap.size, 1, none⟩ = some (.string (tx av))) (first | exact ⟨t0, t1⟩ | exact ⟨r0, r1⟩ | exact ⟨v0, v1⟩ | exact ⟨z0, z1⟩) (first
        | (go_at_call 7; refine (mEscape_c (tx av) _ HAV.out).mono ?_; rintro e w4 ⟨rfl, hb4⟩; have HS4 := Lib.hid (HSA.out.on hb4); have HA4 := Lib.hid (HAB.out.below hb4); have r0 := HA4.out.cell 0; have r1 := HA4.out.cell 1; have v0 := (HA4.out.alloc (.cells #[.string ⟨#[32]⟩, .string (tx an), .string ⟨#[61, 34]⟩, .string (tx (escL (bs (tx av)))), .string ⟨#[34]⟩] 9)).cell 0; have v1 := (HA4.out.alloc (.cells #[.string ⟨#[32]⟩, .string (tx an), .string ⟨#[61, 34]⟩, .string (tx (escL (bs (tx av)))), .string ⟨#[34]⟩] 9)).cell 1; clear hb4)
        | (go_at_call 22; refine (write_n (HS4.out.alloc _) [[32], an, [61, 34], escL av, [34]] (pcs_new _ _ _ rfl) rfl HWB.out (by simp)).mono ?_; rintro e w5 ⟨rfl, hs5, hk5⟩; have HS5 := Lib.hid hs5; have HA5 := Lib.hid (hk5 _ _ _ (by decide) (by decide) (HA4.out.alloc _)); have z0 := HA5.out.cell 0; have z1 := HA5.out.cell 1; clear hs5 hk5))
      have X : Hid (AwAt B b w.heap.size (.slice (some ⟨nb, no, none⟩) n c) (.int .i64 q) #[.int .i64 q, .string (tx nm), .string (tx xt), .slice (some ⟨ab, ao, none⟩) l2 c2] R2 at_ w (k + 1) w5) := Lib.hid ⟨by
        have := HS5.out
        rw [HX.out]
        unfold attrW
        simpa using this⟩
      go_wp2_with fail
      go_roundw
      case rel => exact ⟨k + 1, by omega, by go_num, X⟩
      case measure => simp [intOf]; omega
    · obtain rfl : k = l2 := by omega
      have HS6 : Hid (NwAt B b w.heap.size (.slice (some ⟨nb, no, none⟩) n c) (.int .i64 q) #[.int .i64 q, .string (tx nm), .string (tx xt), .slice A2 k c2] (R2 ++ attrsW at_) w wr) := Lib.hid (by
        have := hh.out.nw
        rwa [HL2.out, List.take_length, ← HL2.out] at this)
      obtain ⟨p6, vb6, hv6⟩ := HS6.out.st
      have HV6 := Lib.hid hv6
      clear hv6
      have HT : Hid (∀ x : List UInt8, R ++ ([60] ++ nm ++ attrsW at_ ++ x) = R2 ++ attrsW at_ ++ x) := Lib.hid fun x => by rw [HR2.out]; simp
      cases hkd : kidsB ns i with
      | false =>
        have HKD := Lib.hid hkd
        obtain rfl : Z = [47, 62] := by rw [HZ.out, hkd]; rfl
        obtain rfl : O = q := by rw [HO.out, hkd]; rfl
        have hl' : (R2 ++ attrsW at_).length + [[47, 62]].flatten.length ≤ 140737488355328 := by
          simp only [List.length_append, List.flatten_cons, List.flatten_nil, List.length_cons, List.length_nil] at hl ⊢
          omega
        clear hkd hl
        go_wp2_with fail
        refine (hasKids_b B b _ n c i _ _ _ _ ns _ false HKD.out HV6.out (HR.out.below HS6.out.bel) HN.out hi hlen).mono ?_
        rintro e w7 ⟨rfl, rfl⟩
        go_wp2_with fail
        refine (write_n (HS6.out.alloc _) [[47, 62]] (pcs_new _ _ _ rfl) rfl hl' (by simp)).mono ?_
        rintro e w8 ⟨rfl, hs8, _⟩
        have HS8 := Lib.hid hs8
        clear hs8
        go_wp2_with fail
        obtain ⟨⟨p8, vb8, hv8⟩, hb8, _⟩ := HS8.out
        exact bodyPost_ret (v := .tuple #[]) (by simp [results, Try.results13]) rfl ⟨rfl, ⟨p8, vb8, by have v : WrV B b _ _ p8 vb8 (R2 ++ attrsW at_ ++ [47, 62]) w8 := hv8; rw [← HT.out] at v; exact v⟩, hb8⟩
      | true =>
        have HKD := Lib.hid hkd
        obtain rfl : Z = [62] := by rw [HZ.out, hkd]; rfl
        obtain rfl : O = (i : Int) := by rw [HO.out, hkd]; rfl
        have hl' : (R2 ++ attrsW at_).length + [[62]].flatten.length ≤ 140737488355328 := by
          simp only [List.length_append, List.flatten_cons, List.flatten_nil, List.length_cons, List.length_nil] at hl ⊢
          omega
        clear hkd hl
        go_wp2_with fail
        refine (hasKids_b B b _ n c i _ _ _ _ ns _ true HKD.out HV6.out (HR.out.below HS6.out.bel) HN.out hi hlen).mono ?_
        rintro e w7 ⟨rfl, rfl⟩
        go_wp2_with fail
        refine (write_n (HS6.out.alloc _) [[62]] (pcs_new _ _ _ rfl) rfl hl' (by simp)).mono ?_
        rintro e w8 ⟨rfl, hs8, _⟩
        have HS8 := Lib.hid hs8
        clear hs8
        obtain ⟨⟨p8, vb8, hv8⟩, hb8, _⟩ := HS8.out
        have z1 := hv8.blk.cell 1
        have f1 := hv8.blk.frozen 1
        have HF : Hid (WrV B b (.slice (some ⟨nb, no, none⟩) n c) (.int .i64 (i : Int)) p8 vb8 (R2 ++ attrsW at_ ++ [[62]].flatten) (w8.setCell ⟨b, 1, none⟩ (.int .i64 (i : Int)))) := Lib.hid (hv8.setOpen (i : Int))
        have HFB : Hid (Below B w (w8.setCell ⟨b, 1, none⟩ (.int .i64 (i : Int)))) := Lib.hid (hb8.setCell (p := ⟨b, 1, none⟩) HBS _)
        clear hv8 hb8
        go_wp2_with fail
        go_end0
        exact ⟨rfl, ⟨p8, vb8, by have v : WrV B b _ _ p8 vb8 (R2 ++ attrsW at_ ++ [62]) _ := HF.out; rw [← HT.out] at v; exact v⟩, HFB.out⟩

theorem node_c (B b : Nat) (A : Option Addr) (n c i : Nat) (p vb : Value) (run : List UInt8) (ns : List Nd) (w : World) (h : WrV B b (.slice A n c) (.int .i64 (openTo ns i)) p vb run w) (hr : NodesR B w (.slice A n c) ns) (hn : n = ns.length) (hp : Par ns i) (hi : i < n) (hup : parAt ns i = -1 ∨ parAt ns i ∈ chainL ns (openTo ns i)) (hlen : n ≤ 1000000000000) (hs : bulkN (nd ns i) ≤ 2000000)
    (hl : (run ++ closeW ns (openTo ns i) (parAt ns i) ++ nodeW ns i).length ≤ 140737488355328) :
    Calls Try.prog 13 #[.pointer (some ⟨b, 0, none⟩), .int .i64 (i : Int)] w fun e w' => e = .returned (.tuple #[]) ∧ (∃ p' vb', WrV B b (.slice A n c) (.int .i64 (openW ns i)) p' vb' (run ++ closeW ns (openTo ns i) (parAt ns i) ++ nodeW ns i) w') ∧ Below B w w' := by
  have hit : i < ns.length := by omega
  by_cases htx : (ns[i]).name = []
  · exact node_text B b A n c i p vb run ns w h hr hn hp hi hup hlen hs hl hit htx
  · exact node_elem B b A n c i p vb run ns w h hr hn hp hi hup hlen hs hl hit htx

end Go.Proofs.Ytkccockdnjjanaa
