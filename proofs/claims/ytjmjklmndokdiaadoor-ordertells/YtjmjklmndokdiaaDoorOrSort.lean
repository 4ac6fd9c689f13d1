/-
  The contract of order.Sort: slices.SortFunc, laid off the library, under compareVersion.
-/
import Derived.Test.YtjmjklmndokdiaaDoorBe
import Derived.Test.YtjmjklmndokdiaaDoorSortLay
import Derived.Shelf.SlSortCmp.WholeK
namespace Go.Proofs.YtjmjklmndokdiaaDoor
open Nwl
open Go.RowKit Go.Maps Go.Shelf Go.Lib Go.Sort
set_option linter.unusedVariables false

theorem bd_grow {w w' : World} (h : Bd w w') : ∃ q os, w' = grow (w.drewN q) os := by
  obtain ⟨⟨h1, h2, h3, h4, h5⟩, h6⟩ := h
  refine ⟨w'.drawn - w.drawn, w'.heap.extract w.heap.size, ?_⟩
  obtain ⟨hp, tp, dr, os, out⟩ := w
  obtain ⟨hp', tp', dr', os', out'⟩ := w'
  simp only at *
  subst h1 h2 h3
  unfold grow World.drewN
  simp only
  congr 1
  · refine Array.ext_getElem? fun i => ?_
    rw [Array.getElem?_append]
    split
    · exact h5 i (by assumption)
    · rw [Array.getElem?_extract]
      split
      · congr 1; omega
      · rw [Array.getElem?_eq_none (by omega)]
  · omega

/-- versions of the row that is sorted -/
abbrev Vs (B : Nat) (w : World) : Type := { v : Vn // VnOk B w v }
theorem split_nil : splitW [] = [] := by decide +kernel
instance vsInh (B : Nat) (w : World) : Inhabited (Vs B w) := ⟨⟨⟨[], none, 0, 0⟩, Nat.zero_le _, by rw [split_nil]; exact WdRow.nil _ _⟩⟩
def encV {B : Nat} {w : World} (v : Vs B w) : List Value := [.string (tx v.1.t), .slice v.1.A v.1.n v.1.c]
def cfV {B : Nat} {w : World} (x y : Vs B w) : Int := ordV x.1.t y.1.t
theorem swoV {B : Nat} {w : World} : SWO (ltOf (cfV (B := B) (w := w))) where
  irrefl x := by unfold ltOf cfV; rw [ord_o.refl]; rfl
  trans x y z h1 h2 := by
    unfold ltOf cfV at *
    rw [decide_eq_true_eq] at *
    exact ord_o.lt_le h1 (by omega)
  ntrans x y z h1 h2 := by
    unfold ltOf cfV at *
    rw [decide_eq_false_iff_not] at *
    have a1 := ord_o.anti x.1.t y.1.t
    have a2 := ord_o.anti y.1.t z.1.t
    have a3 := ord_o.anti x.1.t z.1.t
    have := ord_o.trans z.1.t y.1.t x.1.t (by omega) (by omega)
    omega
theorem vn_read {B : Nat} {w W : World} {v : Vn} (h : VnOk B w v) (hsz : w.heap.size ≤ W.heap.size) (hc : ∀ a : Addr, B ≤ a.block → a.block < w.heap.size → W.cell? a = w.cell? a) : WzR W.heap.size W v.A v.n (spZ v.t) := by
  have hr : WdR W.heap.size W v.A v.n (splitW v.t) := by
    refine ⟨h.2.1, fun j hj => ?_⟩
    rcases h.2.cells with ⟨_, _, e, _⟩ | ⟨g, hA, hg, hgw, _, _, hcell⟩
    · rw [e] at hj; simp at hj
    · obtain ⟨c0, c1⟩ := hcell j hj
      exact ⟨g, hA, by omega, (hc ⟨g, j * 2, none⟩ hg hgw).trans c0, (hc ⟨g, j * 2 + 1, none⟩ hg hgw).trans c1⟩
  exact hr.z
theorem vn_small {B : Nat} {w : World} {v : Vn} (h : VnOk B w v) : v.n ≤ 1000000 := by
  have h1 := h.2.1
  have h2 := splitW_le v.t
  have h3 := h.1
  omega
theorem vn_short {B : Nat} {w : World} {v : Vn} (h : VnOk B w v) : ShortW (spZ v.t) := spZ_short _ (by have := h.1; omega)
theorem cmpLaysV (B : Nat) (w : World) (blk size : Nat) (hblk : blk < B) : CmpLays Tryd.prog 19 #[] (encV (B := B) (w := w)) 2 cfV blk 0 size w := by
  intro m os dk hs x y
  have hsz := size_sortWorldK_c (encV (B := B) (w := w)) 2 w blk 0 m dk os
  have hc : ∀ a : Addr, B ≤ a.block → a.block < w.heap.size → (sortWorldK (encV (B := B) (w := w)) 2 w blk 0 m dk os).cell? a = w.cell? a := fun a h1 h2 => cell?_sortWorldK_other _ _ _ _ _ _ _ _ a (by omega) h2
  refine (compareVersion_c x.1.t y.1.t x.1.A y.1.A x.1.n y.1.n x.1.c y.1.c (spZ x.1.t) (spZ y.1.t) _ _ (Nat.le_refl _) (vn_read x.2 hsz hc) (vn_read y.2 hsz hc) (vn_small x.2) (vn_small y.2) (vn_short x.2) (vn_short y.2) (ordV x.1.t y.1.t) rfl).mono ?_
  rintro e w' ⟨rfl, hb⟩
  exact ⟨rfl, bd_grow hb⟩
/-- the row, as the sort reads it -/
def rowV {B : Nat} {w : World} (vs : List Vn) (h : ∀ v ∈ vs, VnOk B w v) : Array (Vs B w) := (vs.attach.map fun v => (⟨v.1, h v.1 v.2⟩ : Vs B w)).toArray
theorem rowV_size {B : Nat} {w : World} (vs : List Vn) (h : ∀ v ∈ vs, VnOk B w v) : (rowV vs h).size = vs.length := by simp [rowV]
theorem rowV_get {B : Nat} {w : World} (vs : List Vn) (h : ∀ v ∈ vs, VnOk B w v) (j : Nat) (hj : j < vs.length) : (rowV vs h)[j]!.1 = vs[j] := by
  rw [getElem!_pos (rowV vs h) j (by rw [rowV_size]; exact hj)]
  simp [rowV]
theorem rowV_list {B : Nat} {w : World} (vs : List Vn) (h : ∀ v ∈ vs, VnOk B w v) : (rowV vs h).toList.map (fun v => v.1.t) = vs.map Vn.t := by
  unfold rowV
  rw [List.toList_toArray, List.map_map]
  show vs.attach.map (Vn.t ∘ Subtype.val) = _
  rw [← List.map_map, List.attach_map_subtype_val]
theorem holdsV {B : Nat} {w : World} (vs : List Vn) (h : ∀ v ∈ vs, VnOk B w v) (g n : Nat) (hn : vs.length = n) (hv : VerAt w g n vs) : HoldsK encV 2 w g 0 (rowV vs h) := by
  obtain ⟨cs, h1, h2, h3⟩ := hv
  intro t ht
  rw [size_flatK, rowV_size] at ht
  rw [get_flatK _ _ _ t (by rw [rowV_size]; exact ht), Nat.zero_add]
  refine ⟨?_, h1.frozen t⟩
  rw [h1.cell]
  have hj : t / 2 < vs.length := by omega
  obtain ⟨e0, e1⟩ := h3 (t / 2) hj
  unfold encV
  rw [rowV_get vs h (t / 2) hj]
  rcases Nat.mod_two_eq_zero_or_one t with e | e
  · rw [e]
    have : t / 2 * 2 = t := by omega
    rw [this] at e0
    exact e0
  · rw [e]
    have : t / 2 * 2 + 1 = t := by omega
    rw [this] at e1
    exact e1
theorem sortWorld_below {α : Type} [Inhabited α] (enc : α → List Value) (k : Nat) (w : World) (blk m : Nat) (d : Array α) (os : Array Obj) (b : Nat) (hb : b ≤ blk) (hw : blk < w.heap.size) : Below b w (sortWorldK enc k w blk 0 m d os) := by
  refine ⟨rfl, rfl, rfl, size_sortWorldK_c enc k w blk 0 m d os, fun i hi => ?_⟩
  unfold sortWorldK grow putRowK putRow mapBlock
  simp only
  rw [Array.getElem?_append_left (by simp [Sort.ahead]; omega), Array.getElem?_modify, if_neg (by omega)]
  rfl
theorem aggV : ∀ w, (isAgg (Tryd.sortLay_ren.t 24)).run Tryd.prog w = .ok true w := fun w => by kernel_rfl
theorem sizV : ∀ w, (Go.sizeOf (Tryd.sortLay_ren.t 24)).run Tryd.prog w = .ok 2 w := fun w => by kernel_rfl
theorem sorted_texts {B : Nat} {w : World} (d d' : Array (Vs B w)) (hp : PermIn 0 d.size d d') (hs : SortedIn (ltOf cfV) 0 d.size d') : d'.toList.map (fun v => v.1.t) = sortV (d.toList.map (fun v => v.1.t)) := by
  obtain ⟨hsz, _, hperm⟩ := hp
  have e1 : d'.extract 0 d.size = d' := by rw [← hsz]; exact Array.extract_size
  rw [e1, Array.extract_size] at hperm
  refine sortV_one _ _ (hperm.map _) ?_
  rw [List.pairwise_map, List.pairwise_iff_getElem]
  intro i j hi hj hij
  have h := hs i j (Nat.zero_le _) hij (by rw [← hsz]; simpa using hj)
  rw [getElem!_pos d' j (by simpa using hj), getElem!_pos d' i (by simpa using hi)] at h
  unfold ltOf cfV at h
  rw [decide_eq_false_iff_not] at h
  unfold leV
  rw [decide_eq_true_eq]
  have := ord_o.anti (d'[i]'(by simpa using hi)).1.t (d'[j]'(by simpa using hj)).1.t
  simp only [Array.getElem_toList]
  omega

theorem sortFunc_c (g n c : Nat) (vs : List Vn) (w : World) (hn : vs.length = n) (hn2 : n ≤ 1000) (hv : VerAt w g n vs) (hok : ∀ v ∈ vs, VnOk (g + 1) w v) :
    Calls Tryd.prog 28 #[.slice (some ⟨g, 0, none⟩) n c, .func (.func 19) #[] #[]] w fun e w' => e = .returned (.tuple #[]) ∧ (∀ j (hj : j < (sortV (vs.map Vn.t)).length), w'.cell? ⟨g, j * 2, none⟩ = some (.string (tx (sortV (vs.map Vn.t))[j]))) ∧ Below g w w' := by
  have eg : ∀ args w, (callFunc 19 args).run Tryd.prog w = .ok (.enter 19 args) w := enters_of Tryd.func19 (by kernel_rfl) rfl
  have hsz : (rowV vs hok).size = n := by rw [rowV_size]; exact hn
  have hH := holdsV vs hok g n hn hv
  have hcon := AnyQ.slices_SortFunc Tryd.sortLay 2 aggV sizV encV (fun _ => rfl) (fun x v hv => by simp [encV] at hv; rcases hv with rfl | rfl <;> rfl) cfV swoV 19 #[] g 0 c (rowV vs hok) w eg (cmpLaysV (g + 1) w g _ (Nat.lt_succ_self g)) hH hv.lt (by rw [hsz]; omega)
  change Calls Tryd.prog 28 _ _ _ at hcon
  rw [hsz] at hcon
  refine hcon.mono ?_
  rintro e w' ⟨rfl, d', m, os, hp, hs, rfl⟩
  rw [← hsz] at hp hs
  have ht := sorted_texts _ _ hp hs
  rw [rowV_list] at ht
  have hH2 := holdsK_sortWorldK_c encV 2 w g 0 (rowV vs hok) d' m os hH hv.lt hp.1
  refine ⟨rfl, fun j hj => ?_, sortWorld_below _ _ _ _ _ _ _ _ (Nat.le_refl _) hv.lt⟩
  have hjd : j < d'.size := by
    have := congrArg List.length ht
    rw [List.length_map, Array.length_toList] at this
    omega
  have h2 := (hH2 (j * 2) (by rw [size_flatK]; omega)).1
  rw [get_flatK _ _ _ (j * 2) (by omega), Nat.zero_add] at h2
  have e : (sortV (vs.map Vn.t))[j] = d'[j].1.t := by
    simp only [← ht, List.getElem_map, Array.getElem_toList]
  rw [e]
  refine h2.trans ?_
  have e2 : j * 2 / 2 = j := by omega
  have e3 : j * 2 % 2 = 0 := by omega
  rw [e2, e3, getElem!_pos d' j hjd]
  rfl

set_option maxRecDepth 100000 in
set_option maxHeartbeats 2000000 in
theorem Sort_c (A : Option Addr) (n c : Nat) (l : List (List UInt8)) (w : World) (h : StrR w.heap.size w A n l) (hn : n ≤ 1000) (hl : ∀ x ∈ l, x.length ≤ 1000) (F : List (List UInt8)) (hF : sortV l = F) :
    Calls Tryd.prog 15 #[.slice A n c] w fun e w' => ∃ g, e = .returned (.slice (some ⟨g, 0, none⟩) n n) ∧ Hid (StrR w'.heap.size w' (some ⟨g, 0, none⟩) n F) ∧ Hid (Below w.heap.size w w') := by
  have H := Lib.hid h
  have HL := Lib.hid hl
  have HF := Lib.hid hF
  clear h hl hF
  go_enter Tryd.func15, Tryd.ntmps15
  go_wp2_with fail
  refine (newVersions_c A n c l w H.out hn HL.out).mono ?_
  rintro e w1 ⟨rfl, vs, e1, hv, hok, hb1⟩
  have hlen : vs.length = n := by rw [H.out.1, ← e1, List.length_map]
  have HV := Lib.hid (show vs.map Vn.t = l ∧ VerAt w1 w.heap.size n vs ∧ (∀ v ∈ vs, VnOk (w.heap.size + 1) w1 v) ∧ Below w.heap.size w w1 ∧ vs.length = n from ⟨e1, hv, hok, hb1, hlen⟩)
  clear e1 hv hok hb1 hlen
  go_wp2_with fail
  refine (sortFunc_c w.heap.size n n vs w1 HV.out.2.2.2.2 hn HV.out.2.1 HV.out.2.2.1).mono ?_
  rintro e w2 ⟨rfl, hc, hb2⟩
  rw [HV.out.1, HF.out] at hc
  have HC := Lib.hid hc
  have HB2 := Lib.hid (HV.out.2.2.2.1.trans hb2)
  have hgw : Hid (w.heap.size < w2.heap.size) := Lib.hid (Nat.lt_of_lt_of_le HV.out.2.1.lt hb2.size)
  have hFl : Hid (n = F.length) := Lib.hid (by rw [← HF.out, sortV_len]; exact H.out.1)
  clear hc hb2
  go_wp2_with fail
  refine (texts_c w.heap.size n n F w2 hgw.out hFl.out HC.out hn).mono ?_
  rintro e w3 ⟨rfl, hs, hb3⟩
  have HS := Lib.hid hs
  have HB3 := Lib.hid (HB2.out.trans (hb3.mono HB2.out.size))
  clear hs hb3
  go_wp2_with fail
  go_ret
  exact ⟨w2.heap.size, rfl, HS, HB3⟩
end Go.Proofs.YtjmjklmndokdiaaDoor
