/- The draws of instructions: each returns an instruction and turns nothing old but the cursor; condition: the code can be read and has at most 4096 bytes. -/
import Derived.Test.YtoccbmmjcbjacaaDoorDr
import Derived.Test.YtoccbmmjcbjacaaDoorFd
import Derived.Deep.DeepCutAuto
namespace Go.Proofs.YtoccbmmjcbjacaaDoor
open Go.RowKit Go.Sort

/-- What a draw of yes or no leaves. -/
def DrawnB (g : Nat) (A : Option Addr) (c : Nat) (xs : List Int) (w : World) (e : Ending) (w' : World) : Prop :=
  ∃ b : Bool, e = .returned (.bool b) ∧ Cur w' g A c xs ∧ Kept g (g + 1) w w'
set_option maxHeartbeats 400000 in
theorem once_any (xs : List Int) (A : Option Addr) (c g : Nat) (n : Int) (w : World) (h : Cur w g A c xs) (h1 : 1 ≤ n) (h2 : n ≤ 256) :
    Calls Tryd.prog 31 #[.pointer (some ⟨g, 0, none⟩), .int .i64 n] w (DrawnB g A c xs w) := by
  have H := Lib.hid h
  clear h
  go_enter Tryd.func31, Tryd.ntmps31
  go_wp2_with fail
  with_reducible refine (below_any _ _ _ _ _ _ H.out h1 h2).mono ?_
  rintro e w1 ⟨r, rfl, ⟨hr0, hr1⟩, hc, hk⟩
  have HC := Lib.hid hc
  have HK := Lib.hid hk
  clear hc hk
  go_wp2
  go_ret
  exact ⟨r == 0, rfl, HC.out, HK.out⟩

set_option maxHeartbeats 800000 in
theorem belowW_any (xs : List Int) (A : Option Addr) (c g : Nat) (n : Int) (w : World) (h : Cur w g A c xs) (h1 : 257 ≤ n) (h2 : n ≤ 100000) :
    Calls Tryd.prog 40 #[.pointer (some ⟨g, 0, none⟩), .int .i64 n] w (Drawn Fits g A c xs w) := by
  have H := Lib.hid h
  clear h
  go_enter Tryd.func40, Tryd.ntmps40
  go_wp2_with fail
  with_reducible refine (byte_any _ _ _ _ _ H.out).mono ?_
  rintro e w1 ⟨r1, rfl, ⟨hr0, hr1⟩, hc, hk⟩
  have HC1 := Lib.hid hc
  have HK1 := Lib.hid hk
  clear hc hk H
  go_wp2_with fail
  with_reducible refine (byte_any _ _ _ _ _ HC1.out).mono ?_
  rintro e w2 ⟨r2, rfl, ⟨hr2, hr3⟩, hc, hk⟩
  have HC2 := Lib.hid hc
  have HK2 := Lib.hid (HK1.out.trans hk)
  clear hc hk HC1 HK1
  go_wp2_with fail
  with_reducible refine (byte_any _ _ _ _ _ HC2.out).mono ?_
  rintro e w3 ⟨r3, rfl, ⟨hr4, hr5⟩, hc, hk⟩
  have HC3 := Lib.hid hc
  have HK3 := Lib.hid (HK2.out.trans hk)
  clear hc hk HC2 HK2
  go_wp2_with fail
  with_reducible refine (byte_any _ _ _ _ _ HC3.out).mono ?_
  rintro e w4 ⟨r4, rfl, ⟨hr6, hr7⟩, hc, hk⟩
  have HC4 := Lib.hid hc
  have HK4 := Lib.hid (HK3.out.trans hk)
  clear hc hk HC3 HK3
  go_wp2
  go_ret
  have a1 := Int.emod_nonneg (r1 * 16777216 + r2 * 65536 + r3 * 256 + r4) (show n ≠ 0 by omega)
  have a2 := Int.emod_lt_of_pos (r1 * 16777216 + r2 * 65536 + r3 * 256 + r4) (show 0 < n by omega)
  exact ⟨_, rfl, by unfold Fits; omega, HC4.out, HK4.out⟩

theorem minK_any (w : World) : Calls Tryd.prog 64 #[.int .i64 1000, .int .i64 4] w fun e w' => e = .returned (.int .i64 4) ∧ w = w' := by
  go_enter Tryd.func64, Tryd.ntmps64
  go_wp2
  go_ret
  exact ⟨rfl, rfl⟩
set_option maxHeartbeats 1600000 in
theorem num_any (xs : List Int) (A : Option Addr) (c g : Nat) (w : World) (h : Cur w g A c xs) :
    Calls Tryd.prog 42 #[.pointer (some ⟨g, 0, none⟩), .int .i64 1000] w (Drawn (fun _ => True) g A c xs w) := by
  have H := Lib.hid h
  clear h
  go_enter Tryd.func42, Tryd.ntmps42
  go_wp2_with fail
  with_reducible refine (once_any _ _ _ _ _ _ H.out (by omega) (by omega)).mono ?_
  rintro e w1 ⟨b, rfl, hc, hk⟩
  have HC1 := Lib.hid hc
  have HK1 := Lib.hid hk
  clear hc hk H
  cases b with
  | true =>
    go_wp2_with fail
    with_reducible refine (odd_any _ _ _ _ _ HC1.out).mono ?_
    rintro e w2 ⟨o, rfl, -, hc, hk⟩
    have HC2 := Lib.hid (hc.kept (Kept.alloc0 w2 (.cells #[.int .i64 (-1), .int .i64 1000, .int .i64 1001, .int .i64 o] 2)) (.inl (Nat.le_refl _)))
    have HK2 := Lib.hid (HK1.out.trans hk |>.alloc (.cells #[.int .i64 (-1), .int .i64 1000, .int .i64 1001, .int .i64 o] 2))
    have hg := hc.lt
    clear hc hk HC1 HK1
    go_wp2_with fail
    with_reducible refine (below_any _ _ _ _ _ _ HC2.out (by omega) (by omega)).mono ?_
    rintro e w3 ⟨r, rfl, ⟨hr0, hr1⟩, hc, hk⟩
    have b : Blk w3 w2.heap.size 2 #[.int .i64 (-1), .int .i64 1000, .int .i64 1001, .int .i64 o] := (Blk.new _ _ _).kept hk (by omega)
    have HC3 := Lib.hid hc
    have HK3 := Lib.hid (HK2.out.trans hk)
    obtain ⟨k, rfl⟩ := Int.eq_ofNat_of_zero_le hr0
    obtain ⟨q, hq⟩ : ∃ q : Int, w3.cell? ⟨w2.heap.size, k, none⟩ = some (.int .i64 q) := by
      rcases (by omega : k = 0 ∨ k = 1 ∨ k = 2 ∨ k = 3) with rfl | rfl | rfl | rfl
      · exact ⟨_, b.cell 0⟩
      · exact ⟨_, b.cell 1⟩
      · exact ⟨_, b.cell 2⟩
      · exact ⟨_, b.cell 3⟩
    clear hc hk b HC2 HK2
    go_wp2
    go_ret
    exact ⟨q, rfl, trivial, HC3.out, HK3.out⟩
  | false =>
    go_wp2_with fail
    with_reducible refine (once_any _ _ _ _ _ _ HC1.out (by omega) (by omega)).mono ?_
    rintro e w2 ⟨b, rfl, hc, hk⟩
    have HC2 := Lib.hid hc
    have HK2 := Lib.hid (HK1.out.trans hk)
    clear hc hk HC1 HK1
    cases b with
    | true =>
      go_wp2_with fail
      with_reducible refine (minK_any _).mono ?_
      rintro e w' ⟨rfl, rfl⟩
      go_wp2_with fail
      with_reducible refine (below_any _ _ _ _ _ _ HC2.out (by omega) (by omega)).mono ?_
      rintro e w3 ⟨r, rfl, -, hc, hk⟩
      have HC3 := Lib.hid hc
      have HK3 := Lib.hid (HK2.out.trans hk)
      clear hc hk
      go_wp2
      go_ret
      exact ⟨_, rfl, trivial, HC3.out, HK3.out⟩
    | false =>
      go_wp2_with fail
      with_reducible refine (belowW_any _ _ _ _ _ _ HC2.out (by omega) (by omega)).mono ?_
      rintro e w3 ⟨r, rfl, -, hc, hk⟩
      have HC3 := Lib.hid hc
      have HK3 := Lib.hid (HK2.out.trans hk)
      clear hc hk
      go_wp2
      go_ret
      exact ⟨_, rfl, trivial, HC3.out, HK3.out⟩

/-- What a draw of an instruction leaves. -/
def DrawnI (g : Nat) (A : Option Addr) (c : Nat) (xs : List Int) (w : World) (e : Ending) (w' : World) : Prop :=
  ∃ x : Ins, e = .returned (.agg #[.int .i64 x.op, .int .i64 x.a, .int .i64 x.b]) ∧ Cur w' g A c xs ∧ Kept g (g + 1) w w'
/-- A draw of an instruction under way: the instruction in a box of its own, the result's box. -/
structure InsSt (w wr : World) (g : Nat) (A : Option Addr) (c : Nat) (xs : List Int) (b r : Nat) (x : Ins) : Prop where
  box : Blk wr b 43 #[.int .i64 x.op, .int .i64 x.a, .int .i64 x.b]
  res : Blk wr r 43 #[.int .i64 0, .int .i64 0, .int .i64 0]
  cur : Cur wr g A c xs
  kept : Kept g (g + 1) w wr
section
variable {w wr wr' : World} {g c b r : Nat} {A : Option Addr} {xs : List Int} {x : Ins}
theorem InsSt.draw (h : InsSt w wr g A c xs b r x) (hb : g ≠ b) (hr : g ≠ r) (hc : Cur wr' g A c xs) (hk : Kept g (g + 1) wr wr') : InsSt w wr' g A c xs b r x :=
  ⟨h.box.kept hk (by omega), h.res.kept hk (by omega), hc, h.kept.trans hk⟩
theorem InsSt.put (h : InsSt w wr g A c xs b r x) (hg : g < b) (hb : w.heap.size ≤ b) (hr : r ≠ b) (i : Nat) (q : Int) (y : Ins) (hy : (#[.int .i64 x.op, .int .i64 x.a, .int .i64 x.b] : Array Value).setIfInBounds i (.int .i64 q) = #[.int .i64 y.op, .int .i64 y.a, .int .i64 y.b]) :
    InsSt w (wr.setCell ⟨b, i, none⟩ (.int .i64 q)) g A c xs b r y := by
  have hk : Kept b (b + 1) wr (wr.setCell ⟨b, i, none⟩ (.int .i64 q)) := Kept.setCell (Kept.refl b (b + 1) wr) (p := ⟨b, i, none⟩) (.inr ⟨Nat.le_refl _, Nat.lt_succ_self _⟩) _
  refine ⟨?_, h.res.far hr _, h.cur.kept hk (.inr (by omega)), h.kept.setCell (.inl hb) _⟩
  rw [← hy]; exact h.box.set_ i _
end
theorem ins_back {w wr : World} {g c b r : Nat} {A : Option Addr} {xs : List Int} {x : Ins} (h : InsSt w wr g A c xs b r x) (hg : g < r) (hr : w.heap.size ≤ r) (v0 v1 v2 : Value) :
    Cur (((wr.setCell ⟨r, 0, none⟩ v0).setCell ⟨r, 1, none⟩ v1).setCell ⟨r, 2, none⟩ v2) g A c xs ∧
    Kept g (g + 1) w (((wr.setCell ⟨r, 0, none⟩ v0).setCell ⟨r, 1, none⟩ v1).setCell ⟨r, 2, none⟩ v2) ∧ Blk (((wr.setCell ⟨r, 0, none⟩ v0).setCell ⟨r, 1, none⟩ v1).setCell ⟨r, 2, none⟩ v2) r 43 #[v0, v1, v2] := by
  have s : ∀ {V : World} (i : Nat) (v : Value), Kept r (r + 1) wr V → Kept r (r + 1) wr (V.setCell ⟨r, i, none⟩ v) := fun i v k => Kept.setCell k (p := ⟨r, i, none⟩) (.inr ⟨Nat.le_refl _, Nat.lt_succ_self _⟩) v
  have k := s 2 v2 (s 1 v1 (s 0 v0 (Kept.refl _ _ wr)))
  exact ⟨h.cur.kept k (.inr (by omega)), h.kept.trans2 k (.inr hr), ((h.res.set_ 0 v0).set_ 1 v1).set_ 2 v2⟩
theorem results_ins (tmps : Array Value) (w : World) (r : Nat) (v0 v1 v2 : Value) (hp : tmps[2]?.getD undef = .pointer (some ⟨r, 0, none⟩)) (h : Blk w r 43 #[v0, v1, v2]) :
    (results Tryd.f39 tmps).run Tryd.prog w = .ok (.agg #[v0, v1, v2]) w := by
  have h0 := h.cell 0
  have h1 := h.cell 1
  have h2 := h.cell 2
  simp [results, Tryd.results39, hp, go_sem, h0, h1, h2]
set_option maxHeartbeats 6400000 in
theorem drawIns_any (xs : List Int) (A : Option Addr) (c g : Nat) (w : World) (h : Cur w g A c xs) :
    Calls Tryd.prog 39 #[.pointer (some ⟨g, 0, none⟩)] w (DrawnI g A c xs w) := by
  have hg := h.lt
  obtain ⟨W, hW⟩ : ∃ W, W = w.alloc (.cells #[.int .i64 0, .int .i64 0, .int .i64 0] 43) := ⟨_, rfl⟩
  have kW : Kept 0 0 w W := by rw [hW]; exact Kept.alloc0 _ _
  have C0 := Lib.hid (h.kept kW (.inl (Nat.le_refl _)))
  have B0 : Hid (Blk W w.heap.size 43 #[.int .i64 0, .int .i64 0, .int .i64 0]) := by show Blk _ _ _ _; rw [hW]; exact Blk.new _ _ _
  have K0 : Hid (Kept g (g + 1) w W) := kW.wide (.inl (Nat.le_refl _))
  clear h kW
  go_enter Tryd.func39, Tryd.ntmps39
  go_wp2_with fail
  rw [← hW]
  clear hW
  with_reducible refine (below_any _ _ _ _ _ _ C0.out (by omega) (by omega)).mono ?_
  rintro e w1 ⟨op, rfl, ⟨ho0, ho1⟩, hc, hk⟩
  have z1 := (K0.out.trans hk).size
  have y1 := (B0.out.kept hk (by omega)).lt
  obtain ⟨V, hV⟩ : ∃ V, V = w1.alloc (.cells #[.int .i64 op, .int .i64 0, .int .i64 0] 43) := ⟨_, rfl⟩
  obtain ⟨bx, hbx⟩ : ∃ bx, bx = w1.heap.size := ⟨_, rfl⟩
  have S0 : Hid (InsSt w V g A c xs bx w.heap.size ⟨op, 0, 0⟩) := by
    refine ⟨?_, ?_, ?_, ?_⟩
    · rw [hV, hbx]; exact Blk.new _ _ _
    · rw [hV]; exact (B0.out.kept hk (by omega)).alloc _
    · rw [hV]; exact hc.kept (Kept.alloc0 _ _) (.inl (Nat.le_refl _))
    · rw [hV]; exact (K0.out.trans hk).alloc _
  have gb : g < bx := by rw [hbx]; omega
  have wb : w.heap.size < bx := by rw [hbx]; exact y1
  have HV := Lib.hid hV
  have HB := Lib.hid hbx
  clear hc hk C0 K0 B0 hV hbx z1 y1
  go_upto_region 2 with fail
  rw [← HV.out, ← HB.out]
  clear HV HB
  go_wp2_with fail
  with_reducible refine (from_any _ _ _ _ _ _ _ S0.out.cur (by omega) (by omega) (by omega) (by omega)).mono ?_
  rintro e w2 ⟨a, rfl, -, hc, hk⟩
  have T1 := Lib.hid (S0.out.draw (by omega) (by omega) hc hk)
  have S1 := Lib.hid (T1.out.put gb (by omega) (by omega) 1 a ⟨op, a, 0⟩ rfl)
  have cc := T1.out.box.cell 1
  have f := T1.out.box.frozen 1
  obtain ⟨U, hU⟩ : ∃ U, U = w2.setCell ⟨bx, 1, none⟩ (.int .i64 a) := ⟨_, rfl⟩
  rw [← hU] at S1
  have HU := Lib.hid hU
  clear hc hk S0 T1 hU
  go_upto_region 3 with fail
  rw [← HU.out]
  clear HU cc f
  have c0 := S1.out.box.cell 0
  simp only [List.getElem?_toArray, List.getElem?_cons_zero] at c0
  rcases (by omega : op = 0 ∨ op = 1 ∨ op = 2 ∨ op = 3 ∨ op = 4 ∨ op = 5 ∨ op = 6 ∨ op = 7 ∨ op = 8 ∨ op = 9 ∨ op = 10) with rfl | rfl | rfl | rfl | rfl | rfl | rfl | rfl | rfl | rfl | rfl
  · go_wp2_with fail
    with_reducible refine (below_any _ _ _ _ _ _ S1.out.cur (by omega) (by omega)).mono ?_
    rintro e w3 ⟨q, rfl, ⟨hq0, hq1⟩, hc, hk⟩
    have T2 := Lib.hid (S1.out.draw (by omega) (by omega) hc hk)
    clear S1
    have cc := T2.out.box.cell 1
    have f := T2.out.box.frozen 1
    obtain ⟨y3, hy⟩ : ∃ y : Ins, y = ⟨0, q, 0⟩ := ⟨_, rfl⟩
    have R3 := Lib.hid (T2.out.put gb (by omega) (by omega) 1 (q) y3 (by rw [hy]; rfl))
    obtain ⟨U3, hU⟩ : ∃ U, U = w3.setCell ⟨bx, 1, none⟩ (.int .i64 (q)) := ⟨_, rfl⟩
    rw [← hU] at R3
    have HU := Lib.hid hU
    have HY := Lib.hid hy
    clear hc hk T2 hU hy
    go_upto_region 12 with fail
    rw [← HU.out]
    clear HU cc f
    have d0 := R3.out.box.cell 0
    rw [HY.out] at d0
    simp only [List.getElem?_toArray, List.getElem?_cons_zero] at d0
    have CT : Hid (∀ w', Calls Tryd.prog 59 #[.int .i64 0] w' fun e w'' => e = .returned (.bool false) ∧ w' = w'') := fun w' => two_any 0 w'
    go_wp2_with fail
    with_reducible refine (CT.out _).mono ?_
    rintro e w' ⟨rfl, rfl⟩
    clear CT
    go_upto_region 16 with fail
    clear d0 c0
    have m0 := R3.out.box.cell 0
    have n0 := R3.out.res.cell 0
    have p0 := R3.out.res.frozen 0
    have m1 := R3.out.box.cell 1
    have n1 := R3.out.res.cell 1
    have p1 := R3.out.res.frozen 1
    have m2 := R3.out.box.cell 2
    have n2 := R3.out.res.cell 2
    have p2 := R3.out.res.frozen 2
    go_wp2
    exact bodyPost_ret (v := .agg #[.int .i64 y3.op, .int .i64 y3.a, .int .i64 y3.b]) (results_ins _ _ w.heap.size _ _ _ rfl (ins_back R3.out (by omega) (Nat.le_refl _) _ _ _).2.2) rfl ⟨y3, rfl, (ins_back R3.out (by omega) (Nat.le_refl _) _ _ _).1, (ins_back R3.out (by omega) (Nat.le_refl _) _ _ _).2.1⟩
  · go_upto_region 12 with fail
    obtain ⟨y3, hy⟩ : ∃ y : Ins, y = ⟨1, a, 0⟩ := ⟨_, rfl⟩
    have R3 : Hid (InsSt w U g A c xs bx w.heap.size y3) := by show InsSt _ _ _ _ _ _ _ _ _; rw [hy]; exact S1.out
    have HY := Lib.hid hy
    clear hy S1
    have d0 := c0
    have CT : Hid (∀ w', Calls Tryd.prog 59 #[.int .i64 1] w' fun e w'' => e = .returned (.bool false) ∧ w' = w'') := fun w' => two_any 1 w'
    go_wp2_with fail
    with_reducible refine (CT.out _).mono ?_
    rintro e w' ⟨rfl, rfl⟩
    clear CT
    go_upto_region 16 with fail
    clear d0 c0
    have m0 := R3.out.box.cell 0
    have n0 := R3.out.res.cell 0
    have p0 := R3.out.res.frozen 0
    have m1 := R3.out.box.cell 1
    have n1 := R3.out.res.cell 1
    have p1 := R3.out.res.frozen 1
    have m2 := R3.out.box.cell 2
    have n2 := R3.out.res.cell 2
    have p2 := R3.out.res.frozen 2
    go_wp2
    exact bodyPost_ret (v := .agg #[.int .i64 y3.op, .int .i64 y3.a, .int .i64 y3.b]) (results_ins _ _ w.heap.size _ _ _ rfl (ins_back R3.out (by omega) (Nat.le_refl _) _ _ _).2.2) rfl ⟨y3, rfl, (ins_back R3.out (by omega) (Nat.le_refl _) _ _ _).1, (ins_back R3.out (by omega) (Nat.le_refl _) _ _ _).2.1⟩
  · go_upto_region 12 with fail
    obtain ⟨y3, hy⟩ : ∃ y : Ins, y = ⟨2, a, 0⟩ := ⟨_, rfl⟩
    have R3 : Hid (InsSt w U g A c xs bx w.heap.size y3) := by show InsSt _ _ _ _ _ _ _ _ _; rw [hy]; exact S1.out
    have HY := Lib.hid hy
    clear hy S1
    have d0 := c0
    have CT : Hid (∀ w', Calls Tryd.prog 59 #[.int .i64 2] w' fun e w'' => e = .returned (.bool false) ∧ w' = w'') := fun w' => two_any 2 w'
    go_wp2_with fail
    with_reducible refine (CT.out _).mono ?_
    rintro e w' ⟨rfl, rfl⟩
    clear CT
    go_upto_region 16 with fail
    clear d0 c0
    have m0 := R3.out.box.cell 0
    have n0 := R3.out.res.cell 0
    have p0 := R3.out.res.frozen 0
    have m1 := R3.out.box.cell 1
    have n1 := R3.out.res.cell 1
    have p1 := R3.out.res.frozen 1
    have m2 := R3.out.box.cell 2
    have n2 := R3.out.res.cell 2
    have p2 := R3.out.res.frozen 2
    go_wp2
    exact bodyPost_ret (v := .agg #[.int .i64 y3.op, .int .i64 y3.a, .int .i64 y3.b]) (results_ins _ _ w.heap.size _ _ _ rfl (ins_back R3.out (by omega) (Nat.le_refl _) _ _ _).2.2) rfl ⟨y3, rfl, (ins_back R3.out (by omega) (Nat.le_refl _) _ _ _).1, (ins_back R3.out (by omega) (Nat.le_refl _) _ _ _).2.1⟩
  · go_upto_region 12 with fail
    obtain ⟨y3, hy⟩ : ∃ y : Ins, y = ⟨3, a, 0⟩ := ⟨_, rfl⟩
    have R3 : Hid (InsSt w U g A c xs bx w.heap.size y3) := by show InsSt _ _ _ _ _ _ _ _ _; rw [hy]; exact S1.out
    have HY := Lib.hid hy
    clear hy S1
    have d0 := c0
    have CT : Hid (∀ w', Calls Tryd.prog 59 #[.int .i64 3] w' fun e w'' => e = .returned (.bool true) ∧ w' = w'') := fun w' => two_any 3 w'
    go_wp2_with fail
    with_reducible refine (CT.out _).mono ?_
    rintro e w' ⟨rfl, rfl⟩
    clear CT
    go_wp2_with fail
    with_reducible refine (below_any _ _ _ _ _ _ R3.out.cur (by omega) (by omega)).mono ?_
    rintro e w4 ⟨u, rfl, ⟨hq0, hq1⟩, hc, hk⟩
    have T4 := Lib.hid (R3.out.draw (by omega) (by omega) hc hk)
    clear R3
    have cc := T4.out.box.cell 2
    have f := T4.out.box.frozen 2
    obtain ⟨y5, hy⟩ : ∃ y : Ins, y = ⟨3, a, u⟩ := ⟨_, rfl⟩
    have R5 := Lib.hid (T4.out.put gb (by omega) (by omega) 2 (u) y5 (by rw [hy, HY.out]; rfl))
    obtain ⟨U5, hU⟩ : ∃ U, U = w4.setCell ⟨bx, 2, none⟩ (.int .i64 (u)) := ⟨_, rfl⟩
    rw [← hU] at R5
    have HU := Lib.hid hU
    have HY5 := Lib.hid hy
    clear hc hk T4 hU hy
    go_upto_region 14 with fail
    rw [← HU.out]
    clear HU cc f
    have d5 := R5.out.box.cell 0
    rw [HY5.out] at d5
    simp only [List.getElem?_toArray, List.getElem?_cons_zero] at d5
    clear d0 c0
    go_upto_region 16 with fail
    clear d5
    have m0 := R5.out.box.cell 0
    have n0 := R5.out.res.cell 0
    have p0 := R5.out.res.frozen 0
    have m1 := R5.out.box.cell 1
    have n1 := R5.out.res.cell 1
    have p1 := R5.out.res.frozen 1
    have m2 := R5.out.box.cell 2
    have n2 := R5.out.res.cell 2
    have p2 := R5.out.res.frozen 2
    go_wp2
    exact bodyPost_ret (v := .agg #[.int .i64 y5.op, .int .i64 y5.a, .int .i64 y5.b]) (results_ins _ _ w.heap.size _ _ _ rfl (ins_back R5.out (by omega) (Nat.le_refl _) _ _ _).2.2) rfl ⟨y5, rfl, (ins_back R5.out (by omega) (Nat.le_refl _) _ _ _).1, (ins_back R5.out (by omega) (Nat.le_refl _) _ _ _).2.1⟩
  · go_upto_region 12 with fail
    obtain ⟨y3, hy⟩ : ∃ y : Ins, y = ⟨4, a, 0⟩ := ⟨_, rfl⟩
    have R3 : Hid (InsSt w U g A c xs bx w.heap.size y3) := by show InsSt _ _ _ _ _ _ _ _ _; rw [hy]; exact S1.out
    have HY := Lib.hid hy
    clear hy S1
    have d0 := c0
    have CT : Hid (∀ w', Calls Tryd.prog 59 #[.int .i64 4] w' fun e w'' => e = .returned (.bool true) ∧ w' = w'') := fun w' => two_any 4 w'
    go_wp2_with fail
    with_reducible refine (CT.out _).mono ?_
    rintro e w' ⟨rfl, rfl⟩
    clear CT
    go_wp2_with fail
    with_reducible refine (below_any _ _ _ _ _ _ R3.out.cur (by omega) (by omega)).mono ?_
    rintro e w4 ⟨u, rfl, ⟨hq0, hq1⟩, hc, hk⟩
    have T4 := Lib.hid (R3.out.draw (by omega) (by omega) hc hk)
    clear R3
    have cc := T4.out.box.cell 2
    have f := T4.out.box.frozen 2
    obtain ⟨y5, hy⟩ : ∃ y : Ins, y = ⟨4, a, u⟩ := ⟨_, rfl⟩
    have R5 := Lib.hid (T4.out.put gb (by omega) (by omega) 2 (u) y5 (by rw [hy, HY.out]; rfl))
    obtain ⟨U5, hU⟩ : ∃ U, U = w4.setCell ⟨bx, 2, none⟩ (.int .i64 (u)) := ⟨_, rfl⟩
    rw [← hU] at R5
    have HU := Lib.hid hU
    have HY5 := Lib.hid hy
    clear hc hk T4 hU hy
    go_upto_region 14 with fail
    rw [← HU.out]
    clear HU cc f
    have d5 := R5.out.box.cell 0
    rw [HY5.out] at d5
    simp only [List.getElem?_toArray, List.getElem?_cons_zero] at d5
    clear d0 c0
    go_upto_region 16 with fail
    clear d5
    have m0 := R5.out.box.cell 0
    have n0 := R5.out.res.cell 0
    have p0 := R5.out.res.frozen 0
    have m1 := R5.out.box.cell 1
    have n1 := R5.out.res.cell 1
    have p1 := R5.out.res.frozen 1
    have m2 := R5.out.box.cell 2
    have n2 := R5.out.res.cell 2
    have p2 := R5.out.res.frozen 2
    go_wp2
    exact bodyPost_ret (v := .agg #[.int .i64 y5.op, .int .i64 y5.a, .int .i64 y5.b]) (results_ins _ _ w.heap.size _ _ _ rfl (ins_back R5.out (by omega) (Nat.le_refl _) _ _ _).2.2) rfl ⟨y5, rfl, (ins_back R5.out (by omega) (Nat.le_refl _) _ _ _).1, (ins_back R5.out (by omega) (Nat.le_refl _) _ _ _).2.1⟩
  · go_wp2_with fail
    with_reducible refine (below_any _ _ _ _ _ _ S1.out.cur (by omega) (by omega)).mono ?_
    rintro e w3 ⟨q, rfl, ⟨hq0, hq1⟩, hc, hk⟩
    have T2 := Lib.hid (S1.out.draw (by omega) (by omega) hc hk)
    clear S1
    have cc := T2.out.box.cell 1
    have f := T2.out.box.frozen 1
    obtain ⟨y3, hy⟩ : ∃ y : Ins, y = ⟨5, q, 0⟩ := ⟨_, rfl⟩
    have R3 := Lib.hid (T2.out.put gb (by omega) (by omega) 1 (q) y3 (by rw [hy]; rfl))
    obtain ⟨U3, hU⟩ : ∃ U, U = w3.setCell ⟨bx, 1, none⟩ (.int .i64 (q)) := ⟨_, rfl⟩
    rw [← hU] at R3
    have HU := Lib.hid hU
    have HY := Lib.hid hy
    clear hc hk T2 hU hy
    go_upto_region 12 with fail
    rw [← HU.out]
    clear HU cc f
    have d0 := R3.out.box.cell 0
    rw [HY.out] at d0
    simp only [List.getElem?_toArray, List.getElem?_cons_zero] at d0
    have CT : Hid (∀ w', Calls Tryd.prog 59 #[.int .i64 5] w' fun e w'' => e = .returned (.bool false) ∧ w' = w'') := fun w' => two_any 5 w'
    go_wp2_with fail
    with_reducible refine (CT.out _).mono ?_
    rintro e w' ⟨rfl, rfl⟩
    clear CT
    go_upto_region 16 with fail
    clear d0 c0
    have m0 := R3.out.box.cell 0
    have n0 := R3.out.res.cell 0
    have p0 := R3.out.res.frozen 0
    have m1 := R3.out.box.cell 1
    have n1 := R3.out.res.cell 1
    have p1 := R3.out.res.frozen 1
    have m2 := R3.out.box.cell 2
    have n2 := R3.out.res.cell 2
    have p2 := R3.out.res.frozen 2
    go_wp2
    exact bodyPost_ret (v := .agg #[.int .i64 y3.op, .int .i64 y3.a, .int .i64 y3.b]) (results_ins _ _ w.heap.size _ _ _ rfl (ins_back R3.out (by omega) (Nat.le_refl _) _ _ _).2.2) rfl ⟨y3, rfl, (ins_back R3.out (by omega) (Nat.le_refl _) _ _ _).1, (ins_back R3.out (by omega) (Nat.le_refl _) _ _ _).2.1⟩
  · go_wp2_with fail
    with_reducible refine (below_any _ _ _ _ _ _ S1.out.cur (by omega) (by omega)).mono ?_
    rintro e w3 ⟨q, rfl, ⟨hq0, hq1⟩, hc, hk⟩
    have T2 := Lib.hid (S1.out.draw (by omega) (by omega) hc hk)
    clear S1
    have cc := T2.out.box.cell 1
    have f := T2.out.box.frozen 1
    obtain ⟨y3, hy⟩ : ∃ y : Ins, y = ⟨6, q, 0⟩ := ⟨_, rfl⟩
    have R3 := Lib.hid (T2.out.put gb (by omega) (by omega) 1 (q) y3 (by rw [hy]; rfl))
    obtain ⟨U3, hU⟩ : ∃ U, U = w3.setCell ⟨bx, 1, none⟩ (.int .i64 (q)) := ⟨_, rfl⟩
    rw [← hU] at R3
    have HU := Lib.hid hU
    have HY := Lib.hid hy
    clear hc hk T2 hU hy
    go_upto_region 12 with fail
    rw [← HU.out]
    clear HU cc f
    have d0 := R3.out.box.cell 0
    rw [HY.out] at d0
    simp only [List.getElem?_toArray, List.getElem?_cons_zero] at d0
    have CT : Hid (∀ w', Calls Tryd.prog 59 #[.int .i64 6] w' fun e w'' => e = .returned (.bool true) ∧ w' = w'') := fun w' => two_any 6 w'
    go_wp2_with fail
    with_reducible refine (CT.out _).mono ?_
    rintro e w' ⟨rfl, rfl⟩
    clear CT
    go_wp2_with fail
    with_reducible refine (below_any _ _ _ _ _ _ R3.out.cur (by omega) (by omega)).mono ?_
    rintro e w4 ⟨u, rfl, ⟨hq0, hq1⟩, hc, hk⟩
    have T4 := Lib.hid (R3.out.draw (by omega) (by omega) hc hk)
    clear R3
    have cc := T4.out.box.cell 2
    have f := T4.out.box.frozen 2
    obtain ⟨y5, hy⟩ : ∃ y : Ins, y = ⟨6, q, u⟩ := ⟨_, rfl⟩
    have R5 := Lib.hid (T4.out.put gb (by omega) (by omega) 2 (u) y5 (by rw [hy, HY.out]; rfl))
    obtain ⟨U5, hU⟩ : ∃ U, U = w4.setCell ⟨bx, 2, none⟩ (.int .i64 (u)) := ⟨_, rfl⟩
    rw [← hU] at R5
    have HU := Lib.hid hU
    have HY5 := Lib.hid hy
    clear hc hk T4 hU hy
    go_upto_region 14 with fail
    rw [← HU.out]
    clear HU cc f
    have d5 := R5.out.box.cell 0
    rw [HY5.out] at d5
    simp only [List.getElem?_toArray, List.getElem?_cons_zero] at d5
    clear d0 c0
    go_upto_region 16 with fail
    clear d5
    have m0 := R5.out.box.cell 0
    have n0 := R5.out.res.cell 0
    have p0 := R5.out.res.frozen 0
    have m1 := R5.out.box.cell 1
    have n1 := R5.out.res.cell 1
    have p1 := R5.out.res.frozen 1
    have m2 := R5.out.box.cell 2
    have n2 := R5.out.res.cell 2
    have p2 := R5.out.res.frozen 2
    go_wp2
    exact bodyPost_ret (v := .agg #[.int .i64 y5.op, .int .i64 y5.a, .int .i64 y5.b]) (results_ins _ _ w.heap.size _ _ _ rfl (ins_back R5.out (by omega) (Nat.le_refl _) _ _ _).2.2) rfl ⟨y5, rfl, (ins_back R5.out (by omega) (Nat.le_refl _) _ _ _).1, (ins_back R5.out (by omega) (Nat.le_refl _) _ _ _).2.1⟩
  · go_wp2_with fail
    with_reducible refine (below_any _ _ _ _ _ _ S1.out.cur (by omega) (by omega)).mono ?_
    rintro e w3 ⟨q, rfl, ⟨hq0, hq1⟩, hc, hk⟩
    have T2 := Lib.hid (S1.out.draw (by omega) (by omega) hc hk)
    clear S1
    have cc := T2.out.box.cell 1
    have f := T2.out.box.frozen 1
    obtain ⟨y3, hy⟩ : ∃ y : Ins, y = ⟨7, q, 0⟩ := ⟨_, rfl⟩
    have R3 := Lib.hid (T2.out.put gb (by omega) (by omega) 1 (q) y3 (by rw [hy]; rfl))
    obtain ⟨U3, hU⟩ : ∃ U, U = w3.setCell ⟨bx, 1, none⟩ (.int .i64 (q)) := ⟨_, rfl⟩
    rw [← hU] at R3
    have HU := Lib.hid hU
    have HY := Lib.hid hy
    clear hc hk T2 hU hy
    go_upto_region 12 with fail
    rw [← HU.out]
    clear HU cc f
    have d0 := R3.out.box.cell 0
    rw [HY.out] at d0
    simp only [List.getElem?_toArray, List.getElem?_cons_zero] at d0
    have CT : Hid (∀ w', Calls Tryd.prog 59 #[.int .i64 7] w' fun e w'' => e = .returned (.bool true) ∧ w' = w'') := fun w' => two_any 7 w'
    go_wp2_with fail
    with_reducible refine (CT.out _).mono ?_
    rintro e w' ⟨rfl, rfl⟩
    clear CT
    go_wp2_with fail
    with_reducible refine (below_any _ _ _ _ _ _ R3.out.cur (by omega) (by omega)).mono ?_
    rintro e w4 ⟨u, rfl, ⟨hq0, hq1⟩, hc, hk⟩
    have T4 := Lib.hid (R3.out.draw (by omega) (by omega) hc hk)
    clear R3
    have cc := T4.out.box.cell 2
    have f := T4.out.box.frozen 2
    obtain ⟨y5, hy⟩ : ∃ y : Ins, y = ⟨7, q, u⟩ := ⟨_, rfl⟩
    have R5 := Lib.hid (T4.out.put gb (by omega) (by omega) 2 (u) y5 (by rw [hy, HY.out]; rfl))
    obtain ⟨U5, hU⟩ : ∃ U, U = w4.setCell ⟨bx, 2, none⟩ (.int .i64 (u)) := ⟨_, rfl⟩
    rw [← hU] at R5
    have HU := Lib.hid hU
    have HY5 := Lib.hid hy
    clear hc hk T4 hU hy
    go_upto_region 14 with fail
    rw [← HU.out]
    clear HU cc f
    have d5 := R5.out.box.cell 0
    rw [HY5.out] at d5
    simp only [List.getElem?_toArray, List.getElem?_cons_zero] at d5
    clear d0 c0
    go_upto_region 16 with fail
    clear d5
    have m0 := R5.out.box.cell 0
    have n0 := R5.out.res.cell 0
    have p0 := R5.out.res.frozen 0
    have m1 := R5.out.box.cell 1
    have n1 := R5.out.res.cell 1
    have p1 := R5.out.res.frozen 1
    have m2 := R5.out.box.cell 2
    have n2 := R5.out.res.cell 2
    have p2 := R5.out.res.frozen 2
    go_wp2
    exact bodyPost_ret (v := .agg #[.int .i64 y5.op, .int .i64 y5.a, .int .i64 y5.b]) (results_ins _ _ w.heap.size _ _ _ rfl (ins_back R5.out (by omega) (Nat.le_refl _) _ _ _).2.2) rfl ⟨y5, rfl, (ins_back R5.out (by omega) (Nat.le_refl _) _ _ _).1, (ins_back R5.out (by omega) (Nat.le_refl _) _ _ _).2.1⟩
  · go_wp2_with fail
    with_reducible refine (below_any _ _ _ _ _ _ S1.out.cur (by omega) (by omega)).mono ?_
    rintro e w3 ⟨q, rfl, ⟨hq0, hq1⟩, hc, hk⟩
    have T2 := Lib.hid (S1.out.draw (by omega) (by omega) hc hk)
    clear S1
    have cc := T2.out.box.cell 1
    have f := T2.out.box.frozen 1
    obtain ⟨y3, hy⟩ : ∃ y : Ins, y = ⟨8, q, 0⟩ := ⟨_, rfl⟩
    have R3 := Lib.hid (T2.out.put gb (by omega) (by omega) 1 (q) y3 (by rw [hy]; rfl))
    obtain ⟨U3, hU⟩ : ∃ U, U = w3.setCell ⟨bx, 1, none⟩ (.int .i64 (q)) := ⟨_, rfl⟩
    rw [← hU] at R3
    have HU := Lib.hid hU
    have HY := Lib.hid hy
    clear hc hk T2 hU hy
    go_upto_region 12 with fail
    rw [← HU.out]
    clear HU cc f
    have d0 := R3.out.box.cell 0
    rw [HY.out] at d0
    simp only [List.getElem?_toArray, List.getElem?_cons_zero] at d0
    have CT : Hid (∀ w', Calls Tryd.prog 59 #[.int .i64 8] w' fun e w'' => e = .returned (.bool false) ∧ w' = w'') := fun w' => two_any 8 w'
    go_wp2_with fail
    with_reducible refine (CT.out _).mono ?_
    rintro e w' ⟨rfl, rfl⟩
    clear CT
    go_upto_region 16 with fail
    clear d0 c0
    have m0 := R3.out.box.cell 0
    have n0 := R3.out.res.cell 0
    have p0 := R3.out.res.frozen 0
    have m1 := R3.out.box.cell 1
    have n1 := R3.out.res.cell 1
    have p1 := R3.out.res.frozen 1
    have m2 := R3.out.box.cell 2
    have n2 := R3.out.res.cell 2
    have p2 := R3.out.res.frozen 2
    go_wp2
    exact bodyPost_ret (v := .agg #[.int .i64 y3.op, .int .i64 y3.a, .int .i64 y3.b]) (results_ins _ _ w.heap.size _ _ _ rfl (ins_back R3.out (by omega) (Nat.le_refl _) _ _ _).2.2) rfl ⟨y3, rfl, (ins_back R3.out (by omega) (Nat.le_refl _) _ _ _).1, (ins_back R3.out (by omega) (Nat.le_refl _) _ _ _).2.1⟩
  · go_upto_region 12 with fail
    obtain ⟨y3, hy⟩ : ∃ y : Ins, y = ⟨9, a, 0⟩ := ⟨_, rfl⟩
    have R3 : Hid (InsSt w U g A c xs bx w.heap.size y3) := by show InsSt _ _ _ _ _ _ _ _ _; rw [hy]; exact S1.out
    have HY := Lib.hid hy
    clear hy S1
    have d0 := c0
    have CT : Hid (∀ w', Calls Tryd.prog 59 #[.int .i64 9] w' fun e w'' => e = .returned (.bool false) ∧ w' = w'') := fun w' => two_any 9 w'
    go_wp2_with fail
    with_reducible refine (CT.out _).mono ?_
    rintro e w' ⟨rfl, rfl⟩
    clear CT
    go_upto_region 16 with fail
    clear d0 c0
    have m0 := R3.out.box.cell 0
    have n0 := R3.out.res.cell 0
    have p0 := R3.out.res.frozen 0
    have m1 := R3.out.box.cell 1
    have n1 := R3.out.res.cell 1
    have p1 := R3.out.res.frozen 1
    have m2 := R3.out.box.cell 2
    have n2 := R3.out.res.cell 2
    have p2 := R3.out.res.frozen 2
    go_wp2
    exact bodyPost_ret (v := .agg #[.int .i64 y3.op, .int .i64 y3.a, .int .i64 y3.b]) (results_ins _ _ w.heap.size _ _ _ rfl (ins_back R3.out (by omega) (Nat.le_refl _) _ _ _).2.2) rfl ⟨y3, rfl, (ins_back R3.out (by omega) (Nat.le_refl _) _ _ _).1, (ins_back R3.out (by omega) (Nat.le_refl _) _ _ _).2.1⟩
  · go_upto_region 12 with fail
    obtain ⟨y3, hy⟩ : ∃ y : Ins, y = ⟨10, a, 0⟩ := ⟨_, rfl⟩
    have R3 : Hid (InsSt w U g A c xs bx w.heap.size y3) := by show InsSt _ _ _ _ _ _ _ _ _; rw [hy]; exact S1.out
    have HY := Lib.hid hy
    clear hy S1
    have d0 := c0
    have CT : Hid (∀ w', Calls Tryd.prog 59 #[.int .i64 10] w' fun e w'' => e = .returned (.bool true) ∧ w' = w'') := fun w' => two_any 10 w'
    go_wp2_with fail
    with_reducible refine (CT.out _).mono ?_
    rintro e w' ⟨rfl, rfl⟩
    clear CT
    go_wp2_with fail
    with_reducible refine (below_any _ _ _ _ _ _ R3.out.cur (by omega) (by omega)).mono ?_
    rintro e w4 ⟨u, rfl, ⟨hq0, hq1⟩, hc, hk⟩
    have T4 := Lib.hid (R3.out.draw (by omega) (by omega) hc hk)
    clear R3
    have cc := T4.out.box.cell 2
    have f := T4.out.box.frozen 2
    obtain ⟨y5, hy⟩ : ∃ y : Ins, y = ⟨10, a, u⟩ := ⟨_, rfl⟩
    have R5 := Lib.hid (T4.out.put gb (by omega) (by omega) 2 (u) y5 (by rw [hy, HY.out]; rfl))
    obtain ⟨U5, hU⟩ : ∃ U, U = w4.setCell ⟨bx, 2, none⟩ (.int .i64 (u)) := ⟨_, rfl⟩
    rw [← hU] at R5
    have HU := Lib.hid hU
    have HY5 := Lib.hid hy
    clear hc hk T4 hU hy
    go_upto_region 14 with fail
    rw [← HU.out]
    clear HU cc f
    have d5 := R5.out.box.cell 0
    rw [HY5.out] at d5
    simp only [List.getElem?_toArray, List.getElem?_cons_zero] at d5
    clear d0 c0
    go_wp2_with fail
    with_reducible refine (below_any _ _ _ _ _ _ R5.out.cur (by omega) (by omega)).mono ?_
    rintro e w6 ⟨t, rfl, ⟨hq0, hq1⟩, hc, hk⟩
    have T6 := Lib.hid (R5.out.draw (by omega) (by omega) hc hk)
    clear R5
    have cc := T6.out.box.cell 2
    have f := T6.out.box.frozen 2
    obtain ⟨y7, hy⟩ : ∃ y : Ins, y = ⟨10, a, 1 + t⟩ := ⟨_, rfl⟩
    have R7 := Lib.hid (T6.out.put gb (by omega) (by omega) 2 (1 + t) y7 (by rw [hy, HY5.out]; rfl))
    obtain ⟨U7, hU⟩ : ∃ U, U = w6.setCell ⟨bx, 2, none⟩ (.int .i64 (1 + t)) := ⟨_, rfl⟩
    rw [← hU] at R7
    have HU := Lib.hid hU
    clear hc hk T6 hU hy
    go_upto_region 16 with fail
    rw [← HU.out]
    clear HU cc f
    clear d5
    have m0 := R7.out.box.cell 0
    have n0 := R7.out.res.cell 0
    have p0 := R7.out.res.frozen 0
    have m1 := R7.out.box.cell 1
    have n1 := R7.out.res.cell 1
    have p1 := R7.out.res.frozen 1
    have m2 := R7.out.box.cell 2
    have n2 := R7.out.res.cell 2
    have p2 := R7.out.res.frozen 2
    go_wp2
    exact bodyPost_ret (v := .agg #[.int .i64 y7.op, .int .i64 y7.a, .int .i64 y7.b]) (results_ins _ _ w.heap.size _ _ _ rfl (ins_back R7.out (by omega) (Nat.le_refl _) _ _ _).2.2) rfl ⟨y7, rfl, (ins_back R7.out (by omega) (Nat.le_refl _) _ _ _).1, (ins_back R7.out (by omega) (Nat.le_refl _) _ _ _).2.1⟩
end Go.Proofs.YtoccbmmjcbjacaaDoor
