/-
  The walk of TokenParts.
-/
import Derived.Test.YtlfpmfdlfhldbaaGreatDoorTtParts
namespace Go.Proofs.YtlfpmfdlfhldbaaGreatDoor
open Nwl
open Go.RowKit Go.Maps
set_option linter.unusedVariables false
set_option linter.unusedSimpArgs false

theorem add_block (a : Addr) (j : Nat) : (a.add j).block = a.block := by unfold Addr.add; split <;> rfl
theorem wpl_append {P : Program} {w w' : World} {ops : Array Oper} {rest : List Oper} {o : Oper} {a : Act} {Q : Exit → Act → World → Prop} (hg : o.guard = none) (s x : Operand) (t : TypeId) (ho : o.op = .call { callee := .builtin .append, args := #[s, x], argTypes := #[t, t] })
    (v1 v2 v' : Value) (hs : a.eval s = v1) (hx : a.eval x = v2) (hr : (Builtin.append_ #[t, t] o.type #[v1, v2]).run P w = .ok v' w') (h : wpList P ops Q rest (a.put o.dst v') w') : wpList P ops Q (o :: rest) a w := by
  refine wpList_plain hg fun K hK => ?_
  unfold Oper.wp execOp
  simp only [ho, hs, hx, hr, resolve, invoke, builtin, List.map_toArray, List.map_cons, List.map_nil, Sem.run_bind, Sem.run_pure, Result.andThen_ok]
  exact hK _ _ h
/-- cells that may be read, below block B -/
def RdC (B : Nat) (w : World) (A : Option Addr) (cs : List Value) : Prop := ∀ a, A = some a → a.block < B ∧ ∀ j u, cs[j]? = some u → w.cell? (a.add j) = some u
theorem RdC.below {B : Nat} {w w' : World} {A : Option Addr} {cs : List Value} (h : RdC B w A cs) (hb : Below B w w') : RdC B w' A cs := fun a ha => by
  obtain ⟨q1, q2⟩ := h a ha
  exact ⟨q1, fun j u hu => (hb.cell (p := a.add j) (by rw [add_block]; exact q1)).trans (q2 j u hu)⟩
theorem RdC.of {base : Nat} {w : World} {A : Option Addr} {n c size : Nat} {e : TypeId} {cs : List Value} (h : w.ownsRow base e size (.slice A n c) n cs) : RdC w.heap.size w A cs := fun a ha => by
  subst ha
  rcases h.2 with ⟨hv, _⟩ | ⟨g, cap, cur, hv, hg, hh, hc, hx, hs, ht⟩
  · cases hv
  · injection hv with q1 _ _
    injection q1 with q1
    subst q1
    exact ⟨(Array.getElem?_eq_some_iff.1 hh).1, fun j u hu => h.cells (g := g) rfl j u hu⟩
theorem RdC.up {B B' : Nat} {w : World} {A : Option Addr} {cs : List Value} (h : RdC B w A cs) (hB : B ≤ B') : RdC B' w A cs := fun a ha => ⟨by have := (h a ha).1; omega, (h a ha).2⟩
theorem TokRd.up {B B' : Nat} {w : World} {A : Option Addr} {n : Nat} {ts : List Tok} (h : TokRd B w A n ts) (hB : B ≤ B') : TokRd B' w A n ts :=
  ⟨h.1, fun j hj => by
    obtain ⟨b, o, A', l, c, q1, q2, q3, q4, q5, q6, q7, q8⟩ := h.2 j hj
    exact ⟨b, o, A', l, c, q1, by omega, q3, q4, q5, q6, q7, q8.up hB⟩⟩
/-- a row of tokens of which each may be read -/
def XR (B : Nat) (w : World) (A : Option Addr) (n c : Nat) (ts : List Tok) (cs : List Value) : Prop := n = ts.length ∧ (A = none → n = 0 ∧ c = 0) ∧ RdC B w A cs ∧ TCs B w ts cs ∧ TokRd B w A n ts
theorem XR.below {B : Nat} {w w' : World} {A : Option Addr} {n c : Nat} {ts : List Tok} {cs : List Value} (h : XR B w A n c ts cs) (hb : Below B w w') : XR B w' A n c ts cs := ⟨h.1, h.2.1, h.2.2.1.below hb, h.2.2.2.1.below hb, h.2.2.2.2.below hb⟩
theorem XR.up {B B' : Nat} {w : World} {A : Option Addr} {n c : Nat} {ts : List Tok} {cs : List Value} (h : XR B w A n c ts cs) (hB : B ≤ B') : XR B' w A n c ts cs := ⟨h.1, h.2.1, h.2.2.1.up hB, h.2.2.2.1.up hB, h.2.2.2.2.up hB⟩
theorem XR.of {base : Nat} {w : World} {A : Option Addr} {n c : Nat} {ts : List Tok} (h : ToksAt base w (.slice A n c) ts) (hn : n = ts.length) : ∃ cs, XR w.heap.size w A n c ts cs := by
  have hr := TokRd.of h hn (Nat.le_refl _)
  obtain ⟨cs, h1, h2⟩ := h
  rw [← hn] at h1
  exact ⟨cs, hn, row_form h1, RdC.of h1, TCs.of h2 (Nat.le_refl _), hr⟩
theorem all_len {ts us : List Tok} (h : ∀ t ∈ ts, t.attrs.length ≤ 100000) (k : ∀ t ∈ us, t.attrs.length ≤ 100000) : ∀ t ∈ ts ++ ⟨1, [99], [], [], true⟩ :: us, t.attrs.length ≤ 100000 := by
  intro t ht
  rcases List.mem_append.1 ht with ht | ht
  · exact h t ht
  · rcases List.mem_cons.1 ht with rfl | ht
    · simp
    · exact k t ht

/-- the three rows one behind the other: the row that is made of them -/
theorem want_made (w : World) (A1 A2 : Option Addr) (n1 c1 n2 c2 : Nat) (ta tb : List Tok) (cs1 cs2 : List Value) (h1 : XR w.heap.size w A1 n1 c1 ta cs1) (h2 : XR w.heap.size w A2 n2 c2 tb cs2) (l1 : n1 ≤ 800) (l2 : n2 ≤ 800) :
    ∃ (A4 A5 A6 : Option Addr) (c4 c5 c6 : Nat) (w4 w5 w6 : World),
      (Builtin.append_ #[23, 23] 23 #[.slice none 0 0, .slice A1 n1 c1]).run Tryz.prog w = .ok (.slice A4 n1 c4) w4
      ∧ (Builtin.append_ #[23, 23] 23 #[.slice A4 n1 c4, .slice (some ⟨w4.heap.size, 0, none⟩) 1 1]).run Tryz.prog (w4.alloc (.cells #[.int .i64 1, .string ⟨#[99]⟩, .string ⟨#[]⟩, .slice none 0 0, .bool true] 32)) = .ok (.slice A5 (n1 + 1) c5) w5
      ∧ (Builtin.append_ #[23, 23] 23 #[.slice A5 (n1 + 1) c5, .slice A2 n2 c2]).run Tryz.prog w5 = .ok (.slice A6 (n1 + 1 + n2) c6) w6
      ∧ TokRd w6.heap.size w6 A6 (n1 + 1 + n2) (ta ++ ⟨1, [99], [], [], true⟩ :: tb) ∧ Below w.heap.size w w6 := by
  obtain ⟨A4, c4, w4, hr4, ho4, hb4⟩ := tok_app (A := none) (n := 0) (c := 0) (cs := []) (World.ownsRow_nil w w.heap.size _ _) (Nat.le_refl _) h1.2.1 (by rw [h1.2.2.2.1.1, h1.1]) h1.2.2.2.1.2.1 (fun a ha => (h1.2.2.1 a ha).2) (by omega) (by omega)
  rw [Nat.zero_add] at hr4 ho4
  rw [List.nil_append] at ho4
  have s4 := hb4.size
  have hw4 : w4.heap.size ≤ (w4.alloc (.cells #[.int .i64 1, .string ⟨#[99]⟩, .string ⟨#[]⟩, .slice none 0 0, .bool true] 32)).heap.size := by simp
  obtain ⟨A5, c5, w5, hr5, ho5, hb5⟩ := tok_app (A1 := some ⟨w4.heap.size, 0, none⟩) (n1 := 1) (c1 := 1) (cs1 := [.int .i64 1, .string ⟨#[99]⟩, .string ⟨#[]⟩, .slice none 0 0, .bool true]) (ho4.alloc (.cells #[.int .i64 1, .string ⟨#[99]⟩, .string ⟨#[]⟩, .slice none 0 0, .bool true] 32)) (Nat.le_trans s4 hw4) (fun e => by cases e) rfl (five_oneCell _ _ _ _ _ _ _) (fun a ha => by injection ha with ha; subst ha; exact cells_five_new w4 _ _ _ _ _ _) (by omega) (by omega)
  have hb45 : Below w.heap.size w w5 := (hb4.alloc s4 _).trans hb5
  have s5 := hb45.size
  have k2 := h2.below hb45
  obtain ⟨A6, c6, w6, hr6, ho6, hb6⟩ := tok_app ho5 s5 k2.2.1 (by rw [k2.2.2.2.1.1, k2.1]) k2.2.2.2.1.2.1 (fun a ha => (k2.2.2.1 a ha).2) (by omega) (by omega)
  have hb46 : Below w.heap.size w w6 := hb45.trans hb6
  have T1 := (h1.below hb46).2.2.2.1
  have T2 := (h2.below hb46).2.2.2.1
  have TT := ((T1.append (TCs.one w.heap.size w6)).append T2).up hb46.size
  have e : (ta ++ [(⟨1, [99], [], [], true⟩ : Tok)]) ++ tb = ta ++ ⟨1, [99], [], [], true⟩ :: tb := by simp
  rw [e] at TT
  have hn : n1 + 1 + n2 = (ta ++ ⟨1, [99], [], [], true⟩ :: tb).length := by rw [List.length_append, List.length_cons, ← h1.1, ← h2.1]; omega
  exact ⟨A4, A5, A6, c4, c5, c6, w4, w5, w6, hr4, hr5, hr6, TokRd.row ho6 TT hn (Nat.le_refl _), hb46⟩

set_option maxRecDepth 100000 in
set_option maxHeartbeats 8000000 in
theorem parts_small (a b : ByteArray) (w : World) (ha : a.size ≤ 800) (hb : b.size ≤ 800) (hg : Glob w) :
    Calls Tryz.prog 4 #[.string a, .string b] w fun e w' => e = .returned (.bool true) ∧ Below w.heap.size w w' := by
  have haI : ¬ (800 : Int) < (a.size : Int) := by omega
  have hbI : ¬ (800 : Int) < (b.size : Int) := by omega
  have ham : a.size ≤ maxLen := by unfold maxLen; omega
  have hbm : b.size ≤ maxLen := by unfold maxLen; omega
  obtain ⟨z, hz⟩ : ∃ z : ByteArray, a ++ ⟨#[60, 99, 47, 62]⟩ ++ b = z := ⟨_, rfl⟩
  have hzb : bs z = bs a ++ 60 :: 99 :: 47 :: 62 :: bs b := by
    rw [← hz, bs_append, bs_append, List.append_assoc]; rfl
  have hzs : z.size ≤ maxLen := by
    rw [← bs_length, hzb]; simp [bs_length]; unfold maxLen; omega
  have k1 : ¬ 9223372036854775807 < a.size + 4 := by omega
  have k2 : ¬ 9223372036854775807 < a.size + 4 + b.size := by omega
  have HZ := Lib.hid hz
  obtain ⟨ta, hta⟩ : ∃ ts, splitT (bs a) = ts := ⟨_, rfl⟩
  obtain ⟨n1, hn1⟩ : ∃ n, (splitT (bs a)).length = n := ⟨_, rfl⟩
  obtain ⟨x1, hx1⟩ : ∃ x, splitE (bs a) = x := ⟨_, rfl⟩
  obtain ⟨tb, htb⟩ : ∃ ts, splitT (bs b) = ts := ⟨_, rfl⟩
  obtain ⟨n2, hn2⟩ : ∃ n, (splitT (bs b)).length = n := ⟨_, rfl⟩
  obtain ⟨x2, hx2⟩ : ∃ x, splitE (bs b) = x := ⟨_, rfl⟩
  obtain ⟨tz, htz⟩ : ∃ ts, splitT (bs z) = ts := ⟨_, rfl⟩
  obtain ⟨n3, hn3⟩ : ∃ n, (splitT (bs z)).length = n := ⟨_, rfl⟩
  obtain ⟨x3, hx3⟩ : ∃ x, splitE (bs z) = x := ⟨_, rfl⟩
  have hl1 : n1 ≤ 800 := by have := splitT_len (bs a); rw [hn1, bs_length] at this; omega
  have hl2 : n2 ≤ 800 := by have := splitT_len (bs b); rw [hn2, bs_length] at this; omega
  have HLA : Hid (∀ t ∈ ta, t.attrs.length ≤ 100000) := Lib.hid (by
    intro t ht
    rw [← hta] at ht
    have := splitT_attrs (bs a) t ht
    rw [bs_length] at this; omega)
  have HLB : Hid (∀ t ∈ tb, t.attrs.length ≤ 100000) := Lib.hid (by
    intro t ht
    rw [← htb] at ht
    have := splitT_attrs (bs b) t ht
    rw [bs_length] at this; omega)
  have key : ∀ (s : ByteArray) (ts : List Tok) (n : Nat) (x : Int), splitT (bs s) = ts → (splitT (bs s)).length = n → splitE (bs s) = x → ∀ (e : Ending) (W W' : World), SplitPost (bs s) W e W' → ∃ (A : Option Addr) (c : Nat), e = .returned (.tuple #[.slice A n c, .int .i64 x]) ∧ (∃ cs, XR W'.heap.size W' A n c ts cs) ∧ Below W.heap.size W W' := by
    rintro s ts n x h1 h2 h3 e W W' ⟨A, c, q1, q2, q3⟩
    rw [h2, h3] at q1
    rw [h2, h1] at q2
    exact ⟨A, c, q1, XR.of q2 (by rw [← h2, h1]), q3⟩
  have S1 := Lib.hid (key a ta n1 x1 hta hn1 hx1)
  have S2 := Lib.hid (key b tb n2 x2 htb hn2 hx2)
  have S3 := Lib.hid (key z tz n3 x3 htz hn3 hx3)
  have HTA := Lib.hid hta
  have HTB := Lib.hid htb
  have HX3 : Hid (splitE (bs a ++ 60 :: 99 :: 47 :: 62 :: bs b) = x3) := Lib.hid (by rw [← hzb]; exact hx3)
  have HZT : Hid (splitT (bs a ++ 60 :: 99 :: 47 :: 62 :: bs b) = tz) := Lib.hid (by rw [← hzb]; exact htz)
  have HZN : Hid (n3 = tz.length) := Lib.hid (by rw [← hn3, htz])
  have HP : Hid (x1 = 0 → x2 = 0 → (headK tb = 5 → splitE (bs a ++ 60 :: 99 :: 47 :: 62 :: bs b) = 5) ∧ (headK tb ≠ 5 → splitE (bs a ++ 60 :: 99 :: 47 :: 62 :: bs b) = 0 ∧ splitT (bs a ++ 60 :: 99 :: 47 :: 62 :: bs b) = splitT (bs a) ++ ⟨1, [99], [], [], true⟩ :: splitT (bs b))) := Lib.hid (by
    intro e1 e2
    have := parts_tell (hx1.trans e1) (hx2.trans e2) (by rw [bs_length]; exact ha) (by rw [bs_length]; exact hb)
    rw [htb] at this
    rw [htb]
    exact this)
  have HG := Lib.hid hg
  clear key hta hn1 hx1 htb hn2 hx2 htz hn3 hx3 hz hzb hg
  go_enter Tryz.func4, Tryz.ntmps4
  go_wp2_with fail
  refine (rSplit_c a _ ham).mono ?_
  intro e w1 hp
  obtain ⟨A1, c1, rfl, ⟨cs1, t1⟩, b1⟩ := S1.out _ _ _ hp
  have X1 := Lib.hid t1
  have B1 := Lib.hid b1
  have G1 := Lib.hid (HG.out.below b1)
  clear hp t1 b1 haI hbI S1
  go_wp2_with fail
  refine (rSplit_c b _ hbm).mono ?_
  intro e w2 hp
  obtain ⟨A2, c2, rfl, ⟨cs2, t2⟩, b2⟩ := S2.out _ _ _ hp
  have X2 := Lib.hid ((X1.out.below b2).up b2.size)
  have Y2 := Lib.hid t2
  have B2 := Lib.hid (B1.out.trans (b2.mono B1.out.size))
  have G2 := Lib.hid (G1.out.below b2)
  clear hp t2 b2 B1 X1 S2
  go_wp2_with fail
  rw [HZ.out]
  refine (Split_c z _ hzs G2.out).mono ?_
  intro e w3 hp
  obtain ⟨A3, c3, rfl, ⟨cs3, t3⟩, b3⟩ := S3.out _ _ _ hp
  have X3 := Lib.hid ((X2.out.below b3).up b3.size)
  have Y3 := Lib.hid ((Y2.out.below b3).up b3.size)
  have R3 := Lib.hid t3.2.2.2.2
  have B3 := Lib.hid (B2.out.trans (b3.mono B2.out.size))
  have G3 := Lib.hid (G2.out.below b3)
  clear hp t3 b3 B2 X2 Y2 S3 k1 k2
  by_cases h1 : x1 = 0
  · by_cases h2 : x2 = 0
    · subst h1 h2
      have HPA := Lib.hid (HP.out rfl rfl)
      clear HP
      by_cases hnil : tb = []
      · have hk5 : headK tb ≠ 5 := by rw [hnil]; decide
        have hnI : ¬ (0 : Int) < (n2 : Int) := by have := Y3.out.1; rw [hnil] at this; simp at this; omega
        clear hnil
        go_upto_region 11 with fail
        clear hnI
        have HPN := HPA.out.2 hk5
        obtain ⟨hx3, ht3⟩ := HPN
        obtain rfl : x3 = 0 := by rw [← HX3.out]; exact hx3
        have h3 : n3 = n1 + 1 + n2 := by
          rw [HZN.out, ← HZT.out, ht3, HTA.out, HTB.out, List.length_append, List.length_cons, ← X3.out.1, ← Y3.out.1]; omega
        obtain rfl : tz = ta ++ ⟨1, [99], [], [], true⟩ :: tb := by rw [← HZT.out, ht3, HTA.out, HTB.out]
        subst h3
        obtain ⟨A4, A5, A6, c4, c5, c6, w4, w5, w6, hr4, hr5, hr6, hrd, hb6⟩ := want_made w3 A1 A2 n1 c1 n2 c2 ta tb cs1 cs2 X3.out Y3.out hl1 hl2
        have HR4 := Lib.hid hr4
        have HR5 := Lib.hid hr5
        have HR6 := Lib.hid hr6
        have R6 := Lib.hid hrd
        have Z6 := Lib.hid ((R3.out.below hb6).up hb6.size)
        have B6 := Lib.hid (B3.out.trans (hb6.mono B3.out.size))
        have G6 := Lib.hid (G3.out.below hb6)
        have HLL := Lib.hid (all_len HLA.out HLB.out)
        clear hr4 hr5 hr6 hrd hb6 hx3 ht3 X3 Y3 R3 B3 G3
        go_wp2_with (first
          | (at_builtin; refine wpl_append rfl _ _ _ rfl _ _ _ rfl rfl HR4.out ?_; clear HR4)
          | (at_builtin; refine wpl_append rfl _ _ _ rfl _ _ _ rfl rfl HR5.out ?_; clear HR5)
          | (at_builtin; refine wpl_append rfl _ _ _ rfl _ _ _ rfl rfl HR6.out ?_; clear HR6))
        refine (awake_c _ G6.out).mono ?_
        rintro e w7 ⟨rfl, b7⟩
        have R7 := Lib.hid (R6.out.below b7)
        have Z7 := Lib.hid (Z6.out.below b7)
        have B7 := Lib.hid (B6.out.trans (b7.mono B6.out.size))
        have S7 := b7.size
        clear b7 R6 Z6 B6 G6
        go_wp2_with fail
        refine (SameT_r A3 A6 (n1 + 1 + n2) c3 c6 (ta ++ ⟨1, [99], [], [], true⟩ :: tb) _ w6.heap.size S7 (by omega) HLL.out Z7.out R7.out).mono ?_
        rintro e w8 ⟨rfl, b8⟩
        have B8 := Lib.hid (B7.out.trans (b8.out.mono B7.out.size))
        clear b8 B7
        go_wp2_with fail
        go_ret
        exact ⟨rfl, B8.out⟩
      · have htl : 0 < tb.length := List.length_pos_iff.2 hnil
        have hn0 : (0 : Int) < (n2 : Int) := by have := Y3.out.1; omega
        have hn0' : 0 < n2 := by omega
        obtain ⟨b5, o5, P5, l5, e5, hA2, z5, p5, -⟩ := Y3.out.2.2.2.2.2 0 htl
        obtain ⟨kd, hkd⟩ : ∃ kd : Nat, (tb[0]'htl).kind = kd := ⟨_, rfl⟩
        have hhd : headK tb = kd := by
          rw [← hkd]
          cases tb with
          | nil => simp at htl
          | cons t tr => rfl
        rw [hkd] at p5
        have p5' : w3.cell? ⟨b5, o5, none⟩ = some (.int .i64 (kd : Int)) := by simpa using p5
        clear p5 hkd hnil
        subst hA2
        by_cases hk : kd = 5
        · have hk5 : headK tb = 5 := hhd.trans hk
          have hkb : ((kd : Int) == 5) = true := by rw [beq_iff_eq]; omega
          have hkI : (kd : Int) = 5 := by omega
          obtain rfl : x3 = 5 := by rw [← HX3.out]; exact HPA.out.1 hk5
          clear hhd hk5 hk
          go_wp2_with fail
          refine (awake_c _ G3.out).mono ?_
          rintro e w4 ⟨rfl, b4⟩
          have B4 := Lib.hid (B3.out.trans (b4.mono B3.out.size))
          clear b4 p5'
          go_wp2_with fail
          go_ret
          exact ⟨rfl, B4.out⟩
        · have hk5 : headK tb ≠ 5 := by rw [hhd]; exact hk
          have hkb : ((kd : Int) == 5) = false := by rw [beq_eq_false_iff_ne]; omega
          have hkI : ¬ (kd : Int) = 5 := by omega
          clear hhd hk
          go_upto_region 11 with fail
          obtain ⟨A2, hA2⟩ : ∃ A2 : Option Addr, some ⟨b5, o5, none⟩ = A2 := ⟨_, rfl⟩
          rw [hA2] at Y3 ⊢
          clear hA2 p5' hkb hkI hn0
          have HPN := HPA.out.2 hk5
          obtain ⟨hx3, ht3⟩ := HPN
          obtain rfl : x3 = 0 := by rw [← HX3.out]; exact hx3
          have h3 : n3 = n1 + 1 + n2 := by
            rw [HZN.out, ← HZT.out, ht3, HTA.out, HTB.out, List.length_append, List.length_cons, ← X3.out.1, ← Y3.out.1]; omega
          obtain rfl : tz = ta ++ ⟨1, [99], [], [], true⟩ :: tb := by rw [← HZT.out, ht3, HTA.out, HTB.out]
          subst h3
          obtain ⟨A4, A5, A6, c4, c5, c6, w4, w5, w6, hr4, hr5, hr6, hrd, hb6⟩ := want_made w3 A1 A2 n1 c1 n2 c2 ta tb cs1 cs2 X3.out Y3.out hl1 hl2
          have HR4 := Lib.hid hr4
          have HR5 := Lib.hid hr5
          have HR6 := Lib.hid hr6
          have R6 := Lib.hid hrd
          have Z6 := Lib.hid ((R3.out.below hb6).up hb6.size)
          have B6 := Lib.hid (B3.out.trans (hb6.mono B3.out.size))
          have G6 := Lib.hid (G3.out.below hb6)
          have HLL := Lib.hid (all_len HLA.out HLB.out)
          clear hr4 hr5 hr6 hrd hb6 hx3 ht3 X3 Y3 R3 B3 G3
          go_wp2_with (first
            | (at_builtin; refine wpl_append rfl _ _ _ rfl _ _ _ rfl rfl HR4.out ?_; clear HR4)
            | (at_builtin; refine wpl_append rfl _ _ _ rfl _ _ _ rfl rfl HR5.out ?_; clear HR5)
            | (at_builtin; refine wpl_append rfl _ _ _ rfl _ _ _ rfl rfl HR6.out ?_; clear HR6))
          refine (awake_c _ G6.out).mono ?_
          rintro e w7 ⟨rfl, b7⟩
          have R7 := Lib.hid (R6.out.below b7)
          have Z7 := Lib.hid (Z6.out.below b7)
          have B7 := Lib.hid (B6.out.trans (b7.mono B6.out.size))
          have S7 := b7.size
          clear b7 R6 Z6 B6 G6
          go_wp2_with fail
          refine (SameT_r A3 A6 (n1 + 1 + n2) c3 c6 (ta ++ ⟨1, [99], [], [], true⟩ :: tb) _ w6.heap.size S7 (by omega) HLL.out Z7.out R7.out).mono ?_
          rintro e w8 ⟨rfl, b8⟩
          have B8 := Lib.hid (B7.out.trans (b8.out.mono B7.out.size))
          clear b8 B7
          go_wp2_with fail
          go_ret
          exact ⟨rfl, B8.out⟩
    · have h2b : (x2 != 0) = true := by rw [bne_iff_ne]; exact h2
      subst h1
      go_wp2_with fail
      refine (awake_c _ G3.out).mono ?_
      rintro e w4 ⟨rfl, b4⟩
      have B4 := Lib.hid (B3.out.trans (b4.mono B3.out.size))
      clear b4
      go_wp2_with fail
      go_ret
      exact ⟨rfl, B4.out⟩
  · have h1b : (x1 != 0) = true := by rw [bne_iff_ne]; exact h1
    go_wp2_with fail
    refine (awake_c _ G3.out).mono ?_
    rintro e w4 ⟨rfl, b4⟩
    have B4 := Lib.hid (B3.out.trans (b4.mono B3.out.size))
    clear b4
    go_wp2_with fail
    go_ret
    exact ⟨rfl, B4.out⟩

set_option maxRecDepth 100000 in
set_option maxHeartbeats 2000000 in
theorem TokenParts_walk (a b : ByteArray) (w : World) (ha : a.size ≤ maxLen) (hb : b.size ≤ maxLen) (hg : Glob w) :
    Calls Tryz.prog 4 #[.string a, .string b] w fun e w' => e = .returned (.bool true) ∧ Below w.heap.size w w' := by
  by_cases hs : a.size ≤ 800 ∧ b.size ≤ 800
  · exact parts_small a b w hs.1 hs.2 hg
  · have hways : (800 : Int) < (a.size : Int) ∨ (¬ (800 : Int) < (a.size : Int) ∧ (800 : Int) < (b.size : Int)) := by omega
    have HG := Lib.hid hg
    clear hg hs ha hb
    go_enter Tryz.func4, Tryz.ntmps4
    rcases hways with h1 | ⟨h1, h2⟩
    all_goals
      go_wp2_with fail
      refine (awake_c _ HG.out).mono ?_
      rintro e w2 ⟨rfl, b2⟩
      have B2 := Lib.hid b2
      clear b2
      go_wp2_with fail
      go_ret
      exact ⟨rfl, B2.out⟩
end Go.Proofs.YtlfpmfdlfhldbaaGreatDoor
