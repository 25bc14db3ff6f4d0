/- The draws of nodes: each returns a node and turns nothing old but the cursor; condition: the code can be read and has at most 4096 bytes. -/
import Derived.Test.YtlfbmjfbebbdlaaDr
import Derived.Test.YtlfbmjfbebbdlaaNv
namespace Go.Proofs.Ytlfbmjfbebbdlaa
open Go.RowKit Go.Sort

/-- What a draw of yes or no leaves. -/
def DrawnB (g : Nat) (A : Option Addr) (c : Nat) (xs : List Int) (w : World) (e : Ending) (w' : World) : Prop :=
  ∃ b : Bool, e = .returned (.bool b) ∧ Cur w' g A c xs ∧ Kept g (g + 1) w w'
set_option maxHeartbeats 400000 in
theorem once_any (xs : List Int) (A : Option Addr) (c g : Nat) (n : Int) (w : World) (h : Cur w g A c xs) (h1 : 1 ≤ n) (h2 : n ≤ 256) :
    Calls Try.prog 60 #[.pointer (some ⟨g, 0, none⟩), .int .i64 n] w (DrawnB g A c xs w) := by
  have H := Lib.hid h
  clear h
  go_enter Try.func60, Try.ntmps60
  go_wp2_with fail
  with_reducible refine (below_any _ _ _ _ _ _ H.out h1 h2).mono ?_
  rintro e w1 ⟨r, rfl, ⟨hr0, hr1⟩, hc, hk⟩
  have HC := Lib.hid hc
  have HK := Lib.hid hk
  clear hc hk
  go_wp2
  go_ret
  exact ⟨r == 0, rfl, HC.out, HK.out⟩

set_option maxHeartbeats 800000 in
theorem belowW_any (xs : List Int) (A : Option Addr) (c g : Nat) (n : Int) (w : World) (h : Cur w g A c xs) (h1 : 257 ≤ n) (h2 : n ≤ 100000) :
    Calls Try.prog 62 #[.pointer (some ⟨g, 0, none⟩), .int .i64 n] w (Drawn Fits g A c xs w) := by
  have H := Lib.hid h
  clear h
  go_enter Try.func62, Try.ntmps62
  go_wp2_with fail
  with_reducible refine (byte_any _ _ _ _ _ H.out).mono ?_
  rintro e w1 ⟨r1, rfl, ⟨hr0, hr1⟩, hc, hk⟩
  have HC1 := Lib.hid hc
  have HK1 := Lib.hid hk
  clear hc hk H
  go_wp2_with fail
  with_reducible refine (byte_any _ _ _ _ _ HC1.out).mono ?_
  rintro e w2 ⟨r2, rfl, ⟨hr2, hr3⟩, hc, hk⟩
  have HC2 := Lib.hid hc
  have HK2 := Lib.hid (HK1.out.trans hk)
  clear hc hk HC1 HK1
  go_wp2_with fail
  with_reducible refine (byte_any _ _ _ _ _ HC2.out).mono ?_
  rintro e w3 ⟨r3, rfl, ⟨hr4, hr5⟩, hc, hk⟩
  have HC3 := Lib.hid hc
  have HK3 := Lib.hid (HK2.out.trans hk)
  clear hc hk HC2 HK2
  go_wp2_with fail
  with_reducible refine (byte_any _ _ _ _ _ HC3.out).mono ?_
  rintro e w4 ⟨r4, rfl, ⟨hr6, hr7⟩, hc, hk⟩
  have HC4 := Lib.hid hc
  have HK4 := Lib.hid (HK3.out.trans hk)
  clear hc hk HC3 HK3
  go_wp2
  go_ret
  have a1 := Int.emod_nonneg (r1 * 16777216 + r2 * 65536 + r3 * 256 + r4) (show n ≠ 0 by omega)
  have a2 := Int.emod_lt_of_pos (r1 * 16777216 + r2 * 65536 + r3 * 256 + r4) (show 0 < n by omega)
  exact ⟨_, rfl, by unfold Fits; omega, HC4.out, HK4.out⟩

set_option maxHeartbeats 1600000 in
theorem num_any (xs : List Int) (A : Option Addr) (c g : Nat) (w : World) (h : Cur w g A c xs) :
    Calls Try.prog 81 #[.pointer (some ⟨g, 0, none⟩), .int .i64 999] w (Drawn (fun _ => True) g A c xs w) := by
  have H := Lib.hid h
  clear h
  go_enter Try.func81, Try.ntmps81
  go_wp2_with fail
  with_reducible refine (once_any _ _ _ _ _ _ H.out (by omega) (by omega)).mono ?_
  rintro e w1 ⟨b, rfl, hc, hk⟩
  have HC1 := Lib.hid hc
  have HK1 := Lib.hid hk
  clear hc hk H
  cases b with
  | true =>
    go_wp2_with fail
    with_reducible refine (odd_any _ _ _ _ _ HC1.out).mono ?_
    rintro e w2 ⟨o, rfl, -, hc, hk⟩
    have HC2 := Lib.hid (hc.kept (Kept.alloc0 w2 (.cells #[.int .i64 (-1), .int .i64 999, .int .i64 1000, .int .i64 o] 2)) (.inl (Nat.le_refl _)))
    have HK2 := Lib.hid (HK1.out.trans hk |>.alloc (.cells #[.int .i64 (-1), .int .i64 999, .int .i64 1000, .int .i64 o] 2))
    have hg := hc.lt
    clear hc hk HC1 HK1
    go_wp2_with fail
    with_reducible refine (below_any _ _ _ _ _ _ HC2.out (by omega) (by omega)).mono ?_
    rintro e w3 ⟨r, rfl, ⟨hr0, hr1⟩, hc, hk⟩
    have b : Blk w3 w2.heap.size 2 #[.int .i64 (-1), .int .i64 999, .int .i64 1000, .int .i64 o] := (Blk.new _ _ _).kept hk (by omega)
    have HC3 := Lib.hid hc
    have HK3 := Lib.hid (HK2.out.trans hk)
    obtain ⟨k, rfl⟩ := Int.eq_ofNat_of_zero_le hr0
    obtain ⟨q, hq⟩ : ∃ q : Int, w3.cell? ⟨w2.heap.size, k, none⟩ = some (.int .i64 q) := by
      rcases (by omega : k = 0 ∨ k = 1 ∨ k = 2 ∨ k = 3) with rfl | rfl | rfl | rfl
      · exact ⟨_, b.cell 0⟩
      · exact ⟨_, b.cell 1⟩
      · exact ⟨_, b.cell 2⟩
      · exact ⟨_, b.cell 3⟩
    clear hc hk b HC2 HK2
    go_wp2
    go_ret
    exact ⟨q, rfl, trivial, HC3.out, HK3.out⟩
  | false =>
    go_wp2_with fail
    with_reducible refine (once_any _ _ _ _ _ _ HC1.out (by omega) (by omega)).mono ?_
    rintro e w2 ⟨b, rfl, hc, hk⟩
    have HC2 := Lib.hid hc
    have HK2 := Lib.hid (HK1.out.trans hk)
    clear hc hk HC1 HK1
    cases b with
    | true =>
      go_wp2_with fail
      with_reducible refine (min5_any _ _ _).mono ?_
      rintro e w' ⟨rfl, rfl⟩
      rw [show minI 999 4 = 4 from by decide]
      go_wp2_with fail
      with_reducible refine (below_any _ _ _ _ _ _ HC2.out (by omega) (by omega)).mono ?_
      rintro e w3 ⟨r, rfl, -, hc, hk⟩
      have HC3 := Lib.hid hc
      have HK3 := Lib.hid (HK2.out.trans hk)
      clear hc hk
      go_wp2
      go_ret
      exact ⟨_, rfl, trivial, HC3.out, HK3.out⟩
    | false =>
      go_wp2_with fail
      with_reducible refine (belowW_any _ _ _ _ _ _ HC2.out (by omega) (by omega)).mono ?_
      rintro e w3 ⟨r, rfl, -, hc, hk⟩
      have HC3 := Lib.hid hc
      have HK3 := Lib.hid (HK2.out.trans hk)
      clear hc hk
      go_wp2
      go_ret
      exact ⟨_, rfl, trivial, HC3.out, HK3.out⟩

abbrev ndCells (x : Nd) : Array Value := #[.int .i64 x.kind, .int .i64 x.up, .int .i64 x.due, .int .i64 x.key, .int .i64 x.value]
/-- What a draw of a node leaves. -/
def DrawnN (g : Nat) (A : Option Addr) (c : Nat) (xs : List Int) (w : World) (e : Ending) (w' : World) : Prop :=
  ∃ x : Nd, e = .returned (.agg #[.int .i64 x.kind, .int .i64 x.up, .int .i64 x.due, .int .i64 x.key, .int .i64 x.value]) ∧ Cur w' g A c xs ∧ Kept g (g + 1) w w'
/-- A draw of a node under way: the node in a box of its own, the result's box. -/
structure NodeSt (w wr : World) (g : Nat) (A : Option Addr) (c : Nat) (xs : List Int) (b r : Nat) (x : Nd) : Prop where
  box : Blk wr b 59 #[.int .i64 x.kind, .int .i64 x.up, .int .i64 x.due, .int .i64 x.key, .int .i64 x.value]
  res : Blk wr r 59 #[.int .i64 0, .int .i64 0, .int .i64 0, .int .i64 0, .int .i64 0]
  cur : Cur wr g A c xs
  kept : Kept g (g + 1) w wr
section
variable {w wr wr' : World} {g c b r : Nat} {A : Option Addr} {xs : List Int} {x : Nd}
theorem NodeSt.draw (h : NodeSt w wr g A c xs b r x) (hb : g ≠ b) (hr : g ≠ r) (hc : Cur wr' g A c xs) (hk : Kept g (g + 1) wr wr') : NodeSt w wr' g A c xs b r x :=
  ⟨h.box.kept hk (by omega), h.res.kept hk (by omega), hc, h.kept.trans hk⟩
theorem NodeSt.put (h : NodeSt w wr g A c xs b r x) (hg : g < b) (hb : w.heap.size ≤ b) (hr : r ≠ b) (i : Nat) (q : Int) (y : Nd) (hy : (#[.int .i64 x.kind, .int .i64 x.up, .int .i64 x.due, .int .i64 x.key, .int .i64 x.value] : Array Value).setIfInBounds i (.int .i64 q) = #[.int .i64 y.kind, .int .i64 y.up, .int .i64 y.due, .int .i64 y.key, .int .i64 y.value]) :
    NodeSt w (wr.setCell ⟨b, i, none⟩ (.int .i64 q)) g A c xs b r y := by
  have hk : Kept b (b + 1) wr (wr.setCell ⟨b, i, none⟩ (.int .i64 q)) := Kept.setCell (Kept.refl b (b + 1) wr) (p := ⟨b, i, none⟩) (.inr ⟨Nat.le_refl _, Nat.lt_succ_self _⟩) _
  refine ⟨?_, h.res.far hr _, h.cur.kept hk (.inr (by omega)), h.kept.setCell (.inl hb) _⟩
  rw [← hy]; exact h.box.set_ i _
end
theorem node_back {w wr : World} {g c b r : Nat} {A : Option Addr} {xs : List Int} {x : Nd} (h : NodeSt w wr g A c xs b r x) (hg : g < r) (hr : w.heap.size ≤ r) (v0 v1 v2 v3 v4 : Value) :
    Cur (((((wr.setCell ⟨r, 0, none⟩ v0).setCell ⟨r, 1, none⟩ v1).setCell ⟨r, 2, none⟩ v2).setCell ⟨r, 3, none⟩ v3).setCell ⟨r, 4, none⟩ v4) g A c xs ∧
    Kept g (g + 1) w (((((wr.setCell ⟨r, 0, none⟩ v0).setCell ⟨r, 1, none⟩ v1).setCell ⟨r, 2, none⟩ v2).setCell ⟨r, 3, none⟩ v3).setCell ⟨r, 4, none⟩ v4) ∧ Blk (((((wr.setCell ⟨r, 0, none⟩ v0).setCell ⟨r, 1, none⟩ v1).setCell ⟨r, 2, none⟩ v2).setCell ⟨r, 3, none⟩ v3).setCell ⟨r, 4, none⟩ v4) r 59 #[v0, v1, v2, v3, v4] := by
  have s : ∀ {V : World} (i : Nat) (v : Value), Kept r (r + 1) wr V → Kept r (r + 1) wr (V.setCell ⟨r, i, none⟩ v) := fun i v k => Kept.setCell k (p := ⟨r, i, none⟩) (.inr ⟨Nat.le_refl _, Nat.lt_succ_self _⟩) v
  have k := s 4 v4 (s 3 v3 (s 2 v2 (s 1 v1 (s 0 v0 (Kept.refl _ _ wr)))))
  exact ⟨h.cur.kept k (.inr (by omega)), h.kept.trans2 k (.inr hr), ((((h.res.set_ 0 v0).set_ 1 v1).set_ 2 v2).set_ 3 v3).set_ 4 v4⟩

theorem results_bend (tmps : Array Value) (w : World) (r : Nat) (v0 v1 v2 v3 v4 : Value) (hp : tmps[4]?.getD undef = .pointer (some ⟨r, 0, none⟩)) (h : Blk w r 59 #[v0, v1, v2, v3, v4]) :
    (results Try.f75 tmps).run Try.prog w = .ok (.agg #[v0, v1, v2, v3, v4]) w := by
  have h0 := h.cell 0
  have h1 := h.cell 1
  have h2 := h.cell 2
  have h3 := h.cell 3
  have h4 := h.cell 4
  simp [results, Try.results75, hp, go_sem, h0, h1, h2, h3, h4]
theorem results_node (tmps : Array Value) (w : World) (r : Nat) (v0 v1 v2 v3 v4 : Value) (hp : tmps[4]?.getD undef = .pointer (some ⟨r, 0, none⟩)) (h : Blk w r 59 #[v0, v1, v2, v3, v4]) :
    (results Try.f80 tmps).run Try.prog w = .ok (.agg #[v0, v1, v2, v3, v4]) w := by
  have h0 := h.cell 0
  have h1 := h.cell 1
  have h2 := h.cell 2
  have h3 := h.cell 3
  have h4 := h.cell 4
  simp [results, Try.results80, hp, go_sem, h0, h1, h2, h3, h4]
set_option maxHeartbeats 6400000 in
theorem bend_any (xs : List Int) (A : Option Addr) (c g : Nat) (x : Nd) (w : World) (h : Cur w g A c xs) :
    Calls Try.prog 75 #[.pointer (some ⟨g, 0, none⟩), .agg #[.int .i64 x.kind, .int .i64 x.up, .int .i64 x.due, .int .i64 x.key, .int .i64 x.value]] w (DrawnN g A c xs w) := by
  have hg := h.lt
  obtain ⟨W, hW⟩ : ∃ W, W = (w.alloc (.cells #[.int .i64 x.kind, .int .i64 x.up, .int .i64 x.due, .int .i64 x.key, .int .i64 x.value] 59)).alloc (.cells #[.int .i64 0, .int .i64 0, .int .i64 0, .int .i64 0, .int .i64 0] 59) := ⟨_, rfl⟩
  have kW : Kept 0 0 w W := by rw [hW]; exact (Kept.alloc0 _ _).alloc _
  have S0 : Hid (NodeSt w W g A c xs w.heap.size (w.heap.size + 1) x) := by
    refine ⟨?_, ?_, h.kept kW (.inl (Nat.le_refl _)), kW.wide (.inl (Nat.le_refl _))⟩
    · rw [hW]; exact (Blk.new _ _ _).alloc _
    · rw [hW]
      have := Blk.new (w.alloc (.cells #[.int .i64 x.kind, .int .i64 x.up, .int .i64 x.due, .int .i64 x.key, .int .i64 x.value] 59)) 59 #[.int .i64 0, .int .i64 0, .int .i64 0, .int .i64 0, .int .i64 0]
      rwa [World.size_alloc] at this
  clear h kW
  go_enter Try.func75, Try.ntmps75
  go_wp2_with fail
  rw [← hW]
  clear hW
  with_reducible refine (below_any _ _ _ _ _ _ S0.out.cur (by omega) (by omega)).mono ?_
  rintro e w1 ⟨r, rfl, ⟨hr0, hr1⟩, hc, hk⟩
  have S1 := Lib.hid (S0.out.draw (by omega) (by omega) hc hk)
  clear hc hk S0
  rcases (by omega : r = 0 ∨ r = 1 ∨ r = 2 ∨ r = 3 ∨ r = 4) with rfl | rfl | rfl | rfl | rfl
  · go_wp2_with fail
    with_reducible refine (from_any _ _ _ _ _ _ _ S1.out.cur (by omega) (by omega) (by omega) (by omega)).mono ?_
    rintro e w2 ⟨q, rfl, -, hc, hk⟩
    have S2 := Lib.hid (S1.out.draw (by omega) (by omega) hc hk)
    obtain ⟨y, hy⟩ : ∃ y : Nd, y = ⟨q, x.up, x.due, x.key, x.value⟩ := ⟨_, rfl⟩
    have S3 := Lib.hid (S2.out.put (by omega) (Nat.le_refl _) (by omega) 0 q y (by rw [hy]; rfl))
    obtain ⟨V, hV⟩ : ∃ V, V = w2.setCell ⟨w.heap.size, 0, none⟩ (.int .i64 q) := ⟨_, rfl⟩
    rw [← hV] at S3
    have HV := Lib.hid hV
    have f := S2.out.box.frozen 0
    have cc := S2.out.box.cell 0
    clear hc hk S1 S2 hV hy
    go_upto_region 12 with fail
    rw [← HV.out]
    have m0 := S3.out.box.cell 0
    have n0 := S3.out.res.cell 0
    have p0 := S3.out.res.frozen 0
    have m1 := S3.out.box.cell 1
    have n1 := S3.out.res.cell 1
    have p1 := S3.out.res.frozen 1
    have m2 := S3.out.box.cell 2
    have n2 := S3.out.res.cell 2
    have p2 := S3.out.res.frozen 2
    have m3 := S3.out.box.cell 3
    have n3 := S3.out.res.cell 3
    have p3 := S3.out.res.frozen 3
    have m4 := S3.out.box.cell 4
    have n4 := S3.out.res.cell 4
    have p4 := S3.out.res.frozen 4
    go_wp2
    exact bodyPost_ret (v := .agg #[.int .i64 y.kind, .int .i64 y.up, .int .i64 y.due, .int .i64 y.key, .int .i64 y.value]) (results_bend _ _ (w.heap.size + 1) _ _ _ _ _ rfl (node_back S3.out (by omega) (by omega) _ _ _ _ _).2.2) rfl ⟨y, rfl, (node_back S3.out (by omega) (by omega) _ _ _ _ _).1, (node_back S3.out (by omega) (by omega) _ _ _ _ _).2.1⟩
  · go_wp2_with fail
    with_reducible refine (from_any _ _ _ _ _ _ _ S1.out.cur (by omega) (by omega) (by omega) (by omega)).mono ?_
    rintro e w2 ⟨q, rfl, -, hc, hk⟩
    have S2 := Lib.hid (S1.out.draw (by omega) (by omega) hc hk)
    obtain ⟨y, hy⟩ : ∃ y : Nd, y = ⟨x.kind, q, x.due, x.key, x.value⟩ := ⟨_, rfl⟩
    have S3 := Lib.hid (S2.out.put (by omega) (Nat.le_refl _) (by omega) 1 q y (by rw [hy]; rfl))
    obtain ⟨V, hV⟩ : ∃ V, V = w2.setCell ⟨w.heap.size, 1, none⟩ (.int .i64 q) := ⟨_, rfl⟩
    rw [← hV] at S3
    have HV := Lib.hid hV
    have f := S2.out.box.frozen 1
    have cc := S2.out.box.cell 1
    clear hc hk S1 S2 hV hy
    go_upto_region 12 with fail
    rw [← HV.out]
    have m0 := S3.out.box.cell 0
    have n0 := S3.out.res.cell 0
    have p0 := S3.out.res.frozen 0
    have m1 := S3.out.box.cell 1
    have n1 := S3.out.res.cell 1
    have p1 := S3.out.res.frozen 1
    have m2 := S3.out.box.cell 2
    have n2 := S3.out.res.cell 2
    have p2 := S3.out.res.frozen 2
    have m3 := S3.out.box.cell 3
    have n3 := S3.out.res.cell 3
    have p3 := S3.out.res.frozen 3
    have m4 := S3.out.box.cell 4
    have n4 := S3.out.res.cell 4
    have p4 := S3.out.res.frozen 4
    go_wp2
    exact bodyPost_ret (v := .agg #[.int .i64 y.kind, .int .i64 y.up, .int .i64 y.due, .int .i64 y.key, .int .i64 y.value]) (results_bend _ _ (w.heap.size + 1) _ _ _ _ _ rfl (node_back S3.out (by omega) (by omega) _ _ _ _ _).2.2) rfl ⟨y, rfl, (node_back S3.out (by omega) (by omega) _ _ _ _ _).1, (node_back S3.out (by omega) (by omega) _ _ _ _ _).2.1⟩
  · go_wp2_with fail
    with_reducible refine (below_any _ _ _ _ _ _ S1.out.cur (by omega) (by omega)).mono ?_
    rintro e w2 ⟨q, rfl, -, hc, hk⟩
    have S2 := Lib.hid (S1.out.draw (by omega) (by omega) hc hk)
    obtain ⟨y, hy⟩ : ∃ y : Nd, y = ⟨x.kind, x.up, q, x.key, x.value⟩ := ⟨_, rfl⟩
    have S3 := Lib.hid (S2.out.put (by omega) (Nat.le_refl _) (by omega) 2 q y (by rw [hy]; rfl))
    obtain ⟨V, hV⟩ : ∃ V, V = w2.setCell ⟨w.heap.size, 2, none⟩ (.int .i64 q) := ⟨_, rfl⟩
    rw [← hV] at S3
    have HV := Lib.hid hV
    have f := S2.out.box.frozen 2
    have cc := S2.out.box.cell 2
    clear hc hk S1 S2 hV hy
    go_upto_region 12 with fail
    rw [← HV.out]
    have m0 := S3.out.box.cell 0
    have n0 := S3.out.res.cell 0
    have p0 := S3.out.res.frozen 0
    have m1 := S3.out.box.cell 1
    have n1 := S3.out.res.cell 1
    have p1 := S3.out.res.frozen 1
    have m2 := S3.out.box.cell 2
    have n2 := S3.out.res.cell 2
    have p2 := S3.out.res.frozen 2
    have m3 := S3.out.box.cell 3
    have n3 := S3.out.res.cell 3
    have p3 := S3.out.res.frozen 3
    have m4 := S3.out.box.cell 4
    have n4 := S3.out.res.cell 4
    have p4 := S3.out.res.frozen 4
    go_wp2
    exact bodyPost_ret (v := .agg #[.int .i64 y.kind, .int .i64 y.up, .int .i64 y.due, .int .i64 y.key, .int .i64 y.value]) (results_bend _ _ (w.heap.size + 1) _ _ _ _ _ rfl (node_back S3.out (by omega) (by omega) _ _ _ _ _).2.2) rfl ⟨y, rfl, (node_back S3.out (by omega) (by omega) _ _ _ _ _).1, (node_back S3.out (by omega) (by omega) _ _ _ _ _).2.1⟩
  · go_wp2_with fail
    with_reducible refine (from_any _ _ _ _ _ _ _ S1.out.cur (by omega) (by omega) (by omega) (by omega)).mono ?_
    rintro e w2 ⟨q, rfl, -, hc, hk⟩
    have S2 := Lib.hid (S1.out.draw (by omega) (by omega) hc hk)
    obtain ⟨y, hy⟩ : ∃ y : Nd, y = ⟨x.kind, x.up, x.due, q, x.value⟩ := ⟨_, rfl⟩
    have S3 := Lib.hid (S2.out.put (by omega) (Nat.le_refl _) (by omega) 3 q y (by rw [hy]; rfl))
    obtain ⟨V, hV⟩ : ∃ V, V = w2.setCell ⟨w.heap.size, 3, none⟩ (.int .i64 q) := ⟨_, rfl⟩
    rw [← hV] at S3
    have HV := Lib.hid hV
    have f := S2.out.box.frozen 3
    have cc := S2.out.box.cell 3
    clear hc hk S1 S2 hV hy
    go_upto_region 12 with fail
    rw [← HV.out]
    have m0 := S3.out.box.cell 0
    have n0 := S3.out.res.cell 0
    have p0 := S3.out.res.frozen 0
    have m1 := S3.out.box.cell 1
    have n1 := S3.out.res.cell 1
    have p1 := S3.out.res.frozen 1
    have m2 := S3.out.box.cell 2
    have n2 := S3.out.res.cell 2
    have p2 := S3.out.res.frozen 2
    have m3 := S3.out.box.cell 3
    have n3 := S3.out.res.cell 3
    have p3 := S3.out.res.frozen 3
    have m4 := S3.out.box.cell 4
    have n4 := S3.out.res.cell 4
    have p4 := S3.out.res.frozen 4
    go_wp2
    exact bodyPost_ret (v := .agg #[.int .i64 y.kind, .int .i64 y.up, .int .i64 y.due, .int .i64 y.key, .int .i64 y.value]) (results_bend _ _ (w.heap.size + 1) _ _ _ _ _ rfl (node_back S3.out (by omega) (by omega) _ _ _ _ _).2.2) rfl ⟨y, rfl, (node_back S3.out (by omega) (by omega) _ _ _ _ _).1, (node_back S3.out (by omega) (by omega) _ _ _ _ _).2.1⟩
  · go_wp2_with fail
    with_reducible refine (num_any _ _ _ _ _ S1.out.cur).mono ?_
    rintro e w2 ⟨q, rfl, -, hc, hk⟩
    have S2 := Lib.hid (S1.out.draw (by omega) (by omega) hc hk)
    obtain ⟨y, hy⟩ : ∃ y : Nd, y = ⟨x.kind, x.up, x.due, x.key, q⟩ := ⟨_, rfl⟩
    have S3 := Lib.hid (S2.out.put (by omega) (Nat.le_refl _) (by omega) 4 q y (by rw [hy]; rfl))
    obtain ⟨V, hV⟩ : ∃ V, V = w2.setCell ⟨w.heap.size, 4, none⟩ (.int .i64 q) := ⟨_, rfl⟩
    rw [← hV] at S3
    have HV := Lib.hid hV
    have f := S2.out.box.frozen 4
    have cc := S2.out.box.cell 4
    clear hc hk S1 S2 hV hy
    go_upto_region 12 with fail
    rw [← HV.out]
    have m0 := S3.out.box.cell 0
    have n0 := S3.out.res.cell 0
    have p0 := S3.out.res.frozen 0
    have m1 := S3.out.box.cell 1
    have n1 := S3.out.res.cell 1
    have p1 := S3.out.res.frozen 1
    have m2 := S3.out.box.cell 2
    have n2 := S3.out.res.cell 2
    have p2 := S3.out.res.frozen 2
    have m3 := S3.out.box.cell 3
    have n3 := S3.out.res.cell 3
    have p3 := S3.out.res.frozen 3
    have m4 := S3.out.box.cell 4
    have n4 := S3.out.res.cell 4
    have p4 := S3.out.res.frozen 4
    go_wp2
    exact bodyPost_ret (v := .agg #[.int .i64 y.kind, .int .i64 y.up, .int .i64 y.due, .int .i64 y.key, .int .i64 y.value]) (results_bend _ _ (w.heap.size + 1) _ _ _ _ _ rfl (node_back S3.out (by omega) (by omega) _ _ _ _ _).2.2) rfl ⟨y, rfl, (node_back S3.out (by omega) (by omega) _ _ _ _ _).1, (node_back S3.out (by omega) (by omega) _ _ _ _ _).2.1⟩

set_option maxHeartbeats 6400000 in
theorem drawNode_any (xs : List Int) (A : Option Addr) (c g : Nat) (n : Int) (w : World) (h : Cur w g A c xs) (hn1 : 1 ≤ n) (hn2 : n ≤ 1000) :
    Calls Try.prog 80 #[.pointer (some ⟨g, 0, none⟩), .int .i64 n] w (DrawnN g A c xs w) := by
  have hg := h.lt
  have hm1 : 1 ≤ minI n 4 := by unfold minI; split <;> omega
  have hm2 : minI n 4 ≤ 4 := by unfold minI; split <;> omega
  obtain ⟨m, hm⟩ : ∃ m, m = minI n 4 := ⟨_, rfl⟩
  rw [← hm] at hm1 hm2
  obtain ⟨W, hW⟩ : ∃ W, W = w.alloc (.cells #[.int .i64 0, .int .i64 0, .int .i64 0, .int .i64 0, .int .i64 0] 59) := ⟨_, rfl⟩
  have kW : Kept 0 0 w W := by rw [hW]; exact Kept.alloc0 _ _
  have C0 := Lib.hid (h.kept kW (.inl (Nat.le_refl _)))
  have B0 : Hid (Blk W w.heap.size 59 #[.int .i64 0, .int .i64 0, .int .i64 0, .int .i64 0, .int .i64 0]) := by show Blk _ _ _ _; rw [hW]; exact Blk.new _ _ _
  have K0 : Hid (Kept g (g + 1) w W) := kW.wide (.inl (Nat.le_refl _))
  clear h kW
  have HM := Lib.hid hm
  clear hm
  go_enter Try.func80, Try.ntmps80
  go_wp2_with fail
  rw [← hW]
  clear hW
  with_reducible refine (from_any _ _ _ _ _ _ _ C0.out (by omega) (by omega) (by omega) (by omega)).mono ?_
  rintro e w1 ⟨k, rfl, ⟨hk0, hk1⟩, hc, hk⟩
  have C1 := Lib.hid hc
  have K1 := Lib.hid (K0.out.trans hk)
  have B1 := Lib.hid (B0.out.kept hk (by omega))
  clear hc hk C0 K0 B0
  go_wp2_with fail
  with_reducible refine (min5_any _ _ _).mono ?_
  rintro e w' ⟨rfl, rfl⟩
  rw [← HM.out]
  go_wp2_with fail
  with_reducible refine (below_any _ _ _ _ _ _ C1.out (by omega) (by omega)).mono ?_
  rintro e w2 ⟨u, rfl, ⟨hu0, hu1⟩, hc, hk⟩
  have z1 := K1.out.size
  have z2 := hk.size
  have y2 := B1.out.lt
  obtain ⟨V, hV⟩ : ∃ V, V = w2.alloc (.cells #[.int .i64 k, .int .i64 (n - 1 - u), .int .i64 9223372036854775807, .int .i64 0, .int .i64 0] 59) := ⟨_, rfl⟩
  have S1 : Hid (NodeSt w V g A c xs w2.heap.size w.heap.size ⟨k, n - 1 - u, 9223372036854775807, 0, 0⟩) := by
    refine ⟨?_, ?_, ?_, ?_⟩
    · rw [hV]; exact Blk.new _ _ _
    · rw [hV]; exact (B1.out.kept hk (by omega)).alloc _
    · rw [hV]; exact hc.kept (Kept.alloc0 _ _) (.inl (Nat.le_refl _))
    · rw [hV]; exact (K1.out.trans hk).alloc _
  have HV := Lib.hid hV
  clear hc hk C1 K1 B1 hV
  go_upto_region 2 with fail
  rw [← HV.out]
  clear HV
  obtain ⟨x, hx⟩ : ∃ x : Nd, x = ⟨k, n - 1 - u, 9223372036854775807, 0, 0⟩ := ⟨_, rfl⟩
  have ek : x.kind = k := by rw [hx]
  rw [← hx] at S1
  have c0 := S1.out.box.cell 0
  rw [ek] at c0
  clear hx ek
  rcases (by omega : k = 1 ∨ k = 2 ∨ k = 3 ∨ k = 4) with rfl | rfl | rfl | rfl
  · go_upto_region 13 with fail
    clear c0
    have m0 := S1.out.box.cell 0
    have n0 := S1.out.res.cell 0
    have p0 := S1.out.res.frozen 0
    have m1 := S1.out.box.cell 1
    have n1 := S1.out.res.cell 1
    have p1 := S1.out.res.frozen 1
    have m2 := S1.out.box.cell 2
    have n2 := S1.out.res.cell 2
    have p2 := S1.out.res.frozen 2
    have m3 := S1.out.box.cell 3
    have n3 := S1.out.res.cell 3
    have p3 := S1.out.res.frozen 3
    have m4 := S1.out.box.cell 4
    have n4 := S1.out.res.cell 4
    have p4 := S1.out.res.frozen 4
    go_wp2
    exact bodyPost_ret (v := .agg #[.int .i64 x.kind, .int .i64 x.up, .int .i64 x.due, .int .i64 x.key, .int .i64 x.value]) (results_node _ _ w.heap.size _ _ _ _ _ rfl (node_back S1.out (by omega) (by omega) _ _ _ _ _).2.2) rfl ⟨x, rfl, (node_back S1.out (by omega) (by omega) _ _ _ _ _).1, (node_back S1.out (by omega) (by omega) _ _ _ _ _).2.1⟩
  · go_wp2_with fail
    with_reducible refine (below_any _ _ _ _ _ _ S1.out.cur (by omega) (by omega)).mono ?_
    rintro e w3 ⟨q, rfl, -, hc, hk⟩
    have S2 := Lib.hid (S1.out.draw (by omega) (by omega) hc hk)
    clear hc hk
    obtain ⟨y, hy⟩ : ∃ y : Nd, y = ⟨x.kind, x.up, q, x.key, x.value⟩ := ⟨_, rfl⟩
    have S3 := Lib.hid (S2.out.put (by omega) (by omega) (by omega) 2 (q) y (by rw [hy]; rfl))
    obtain ⟨V3, hV3⟩ : ∃ V3, V3 = w3.setCell ⟨w2.heap.size, 2, none⟩ (.int .i64 (q)) := ⟨_, rfl⟩
    rw [← hV3] at S3
    have HV3 := Lib.hid hV3
    have fV3 := S2.out.box.frozen 2
    have gV3 := S2.out.box.cell 2
    clear hV3 hy
    clear c0 S1 S2
    go_upto_region 5 with fail
    rw [← HV3.out]
    clear HV3 fV3 gV3
    go_wp2_with fail
    with_reducible refine (once_any _ _ _ _ _ _ S3.out.cur (by omega) (by omega)).mono ?_
    rintro e w4 ⟨b, rfl, hc, hk⟩
    have S4 := Lib.hid (S3.out.draw (by omega) (by omega) hc hk)
    clear hc hk
    clear S3
    cases b with
    | false =>
      go_upto_region 13 with fail
      have m0 := S4.out.box.cell 0
      have n0 := S4.out.res.cell 0
      have p0 := S4.out.res.frozen 0
      have m1 := S4.out.box.cell 1
      have n1 := S4.out.res.cell 1
      have p1 := S4.out.res.frozen 1
      have m2 := S4.out.box.cell 2
      have n2 := S4.out.res.cell 2
      have p2 := S4.out.res.frozen 2
      have m3 := S4.out.box.cell 3
      have n3 := S4.out.res.cell 3
      have p3 := S4.out.res.frozen 3
      have m4 := S4.out.box.cell 4
      have n4 := S4.out.res.cell 4
      have p4 := S4.out.res.frozen 4
      go_wp2
      exact bodyPost_ret (v := .agg #[.int .i64 y.kind, .int .i64 y.up, .int .i64 y.due, .int .i64 y.key, .int .i64 y.value]) (results_node _ _ w.heap.size _ _ _ _ _ rfl (node_back S4.out (by omega) (by omega) _ _ _ _ _).2.2) rfl ⟨y, rfl, (node_back S4.out (by omega) (by omega) _ _ _ _ _).1, (node_back S4.out (by omega) (by omega) _ _ _ _ _).2.1⟩
    | true =>
      go_wp2_with fail
      with_reducible refine (draw_any _ _ _ _ _ S4.out.cur).mono ?_
      rintro e w5 ⟨q2, rfl, -, hc, hk⟩
      have S5 := Lib.hid (S4.out.draw (by omega) (by omega) hc hk)
      clear hc hk
      obtain ⟨z, hz⟩ : ∃ z : Nd, z = ⟨y.kind, y.up, q2, y.key, y.value⟩ := ⟨_, rfl⟩
      have S6 := Lib.hid (S5.out.put (by omega) (by omega) (by omega) 2 (q2) z (by rw [hz]; rfl))
      obtain ⟨V6, hV6⟩ : ∃ V6, V6 = w5.setCell ⟨w2.heap.size, 2, none⟩ (.int .i64 (q2)) := ⟨_, rfl⟩
      rw [← hV6] at S6
      have HV6 := Lib.hid hV6
      have fV6 := S5.out.box.frozen 2
      have gV6 := S5.out.box.cell 2
      clear hV6 hz
      clear S4 S5
      go_upto_region 13 with fail
      rw [← HV6.out]
      have m0 := S6.out.box.cell 0
      have n0 := S6.out.res.cell 0
      have p0 := S6.out.res.frozen 0
      have m1 := S6.out.box.cell 1
      have n1 := S6.out.res.cell 1
      have p1 := S6.out.res.frozen 1
      have m2 := S6.out.box.cell 2
      have n2 := S6.out.res.cell 2
      have p2 := S6.out.res.frozen 2
      have m3 := S6.out.box.cell 3
      have n3 := S6.out.res.cell 3
      have p3 := S6.out.res.frozen 3
      have m4 := S6.out.box.cell 4
      have n4 := S6.out.res.cell 4
      have p4 := S6.out.res.frozen 4
      go_wp2
      exact bodyPost_ret (v := .agg #[.int .i64 z.kind, .int .i64 z.up, .int .i64 z.due, .int .i64 z.key, .int .i64 z.value]) (results_node _ _ w.heap.size _ _ _ _ _ rfl (node_back S6.out (by omega) (by omega) _ _ _ _ _).2.2) rfl ⟨z, rfl, (node_back S6.out (by omega) (by omega) _ _ _ _ _).1, (node_back S6.out (by omega) (by omega) _ _ _ _ _).2.1⟩
  · go_wp2_with fail
    with_reducible refine (below_any _ _ _ _ _ _ S1.out.cur (by omega) (by omega)).mono ?_
    rintro e w3 ⟨q, rfl, ⟨q0, q1⟩, hc, hk⟩
    have S2 := Lib.hid (S1.out.draw (by omega) (by omega) hc hk)
    clear hc hk
    obtain ⟨y, hy⟩ : ∃ y : Nd, y = ⟨x.kind, x.up, x.due, 1 + q, x.value⟩ := ⟨_, rfl⟩
    have S3 := Lib.hid (S2.out.put (by omega) (by omega) (by omega) 3 (1 + q) y (by rw [hy]; rfl))
    obtain ⟨V3, hV3⟩ : ∃ V3, V3 = w3.setCell ⟨w2.heap.size, 3, none⟩ (.int .i64 (1 + q)) := ⟨_, rfl⟩
    rw [← hV3] at S3
    have HV3 := Lib.hid hV3
    have fV3 := S2.out.box.frozen 3
    have gV3 := S2.out.box.cell 3
    clear hV3 hy
    clear c0 S1 S2
    go_upto_region 9 with fail
    rw [← HV3.out]
    clear HV3 fV3 gV3
    go_wp2_with fail
    with_reducible refine (below_any _ _ _ _ _ _ S3.out.cur (by omega) (by omega)).mono ?_
    rintro e w4 ⟨q2, rfl, -, hc, hk⟩
    have S4 := Lib.hid (S3.out.draw (by omega) (by omega) hc hk)
    clear hc hk
    obtain ⟨z, hz⟩ : ∃ z : Nd, z = ⟨y.kind, y.up, y.due, y.key, q2⟩ := ⟨_, rfl⟩
    have S5 := Lib.hid (S4.out.put (by omega) (by omega) (by omega) 4 (q2) z (by rw [hz]; rfl))
    obtain ⟨V5, hV5⟩ : ∃ V5, V5 = w4.setCell ⟨w2.heap.size, 4, none⟩ (.int .i64 (q2)) := ⟨_, rfl⟩
    rw [← hV5] at S5
    have HV5 := Lib.hid hV5
    have fV5 := S4.out.box.frozen 4
    have gV5 := S4.out.box.cell 4
    clear hV5 hz
    clear S3 S4
    go_upto_region 13 with fail
    rw [← HV5.out]
    have m0 := S5.out.box.cell 0
    have n0 := S5.out.res.cell 0
    have p0 := S5.out.res.frozen 0
    have m1 := S5.out.box.cell 1
    have n1 := S5.out.res.cell 1
    have p1 := S5.out.res.frozen 1
    have m2 := S5.out.box.cell 2
    have n2 := S5.out.res.cell 2
    have p2 := S5.out.res.frozen 2
    have m3 := S5.out.box.cell 3
    have n3 := S5.out.res.cell 3
    have p3 := S5.out.res.frozen 3
    have m4 := S5.out.box.cell 4
    have n4 := S5.out.res.cell 4
    have p4 := S5.out.res.frozen 4
    go_wp2
    exact bodyPost_ret (v := .agg #[.int .i64 z.kind, .int .i64 z.up, .int .i64 z.due, .int .i64 z.key, .int .i64 z.value]) (results_node _ _ w.heap.size _ _ _ _ _ rfl (node_back S5.out (by omega) (by omega) _ _ _ _ _).2.2) rfl ⟨z, rfl, (node_back S5.out (by omega) (by omega) _ _ _ _ _).1, (node_back S5.out (by omega) (by omega) _ _ _ _ _).2.1⟩
  · go_wp2_with fail
    with_reducible refine (once_any _ _ _ _ _ _ S1.out.cur (by omega) (by omega)).mono ?_
    rintro e w3 ⟨b, rfl, hc, hk⟩
    have S2 := Lib.hid (S1.out.draw (by omega) (by omega) hc hk)
    clear hc hk
    clear c0 S1
    cases b with
    | true =>
      go_upto_region 13 with fail
      have m0 := S2.out.box.cell 0
      have n0 := S2.out.res.cell 0
      have p0 := S2.out.res.frozen 0
      have m1 := S2.out.box.cell 1
      have n1 := S2.out.res.cell 1
      have p1 := S2.out.res.frozen 1
      have m2 := S2.out.box.cell 2
      have n2 := S2.out.res.cell 2
      have p2 := S2.out.res.frozen 2
      have m3 := S2.out.box.cell 3
      have n3 := S2.out.res.cell 3
      have p3 := S2.out.res.frozen 3
      have m4 := S2.out.box.cell 4
      have n4 := S2.out.res.cell 4
      have p4 := S2.out.res.frozen 4
      go_wp2
      exact bodyPost_ret (v := .agg #[.int .i64 x.kind, .int .i64 x.up, .int .i64 x.due, .int .i64 x.key, .int .i64 x.value]) (results_node _ _ w.heap.size _ _ _ _ _ rfl (node_back S2.out (by omega) (by omega) _ _ _ _ _).2.2) rfl ⟨x, rfl, (node_back S2.out (by omega) (by omega) _ _ _ _ _).1, (node_back S2.out (by omega) (by omega) _ _ _ _ _).2.1⟩
    | false =>
      obtain ⟨y, hy⟩ : ∃ y : Nd, y = ⟨1, x.up, x.due, x.key, x.value⟩ := ⟨_, rfl⟩
      have S3 := Lib.hid (S2.out.put (by omega) (by omega) (by omega) 0 (1) y (by rw [hy]; rfl))
      obtain ⟨V3, hV3⟩ : ∃ V3, V3 = w3.setCell ⟨w2.heap.size, 0, none⟩ (.int .i64 (1)) := ⟨_, rfl⟩
      rw [← hV3] at S3
      have HV3 := Lib.hid hV3
      have fV3 := S2.out.box.frozen 0
      have gV3 := S2.out.box.cell 0
      clear hV3 hy
      clear S2
      go_upto_region 13 with fail
      rw [← HV3.out]
      have m0 := S3.out.box.cell 0
      have n0 := S3.out.res.cell 0
      have p0 := S3.out.res.frozen 0
      have m1 := S3.out.box.cell 1
      have n1 := S3.out.res.cell 1
      have p1 := S3.out.res.frozen 1
      have m2 := S3.out.box.cell 2
      have n2 := S3.out.res.cell 2
      have p2 := S3.out.res.frozen 2
      have m3 := S3.out.box.cell 3
      have n3 := S3.out.res.cell 3
      have p3 := S3.out.res.frozen 3
      have m4 := S3.out.box.cell 4
      have n4 := S3.out.res.cell 4
      have p4 := S3.out.res.frozen 4
      go_wp2
      exact bodyPost_ret (v := .agg #[.int .i64 y.kind, .int .i64 y.up, .int .i64 y.due, .int .i64 y.key, .int .i64 y.value]) (results_node _ _ w.heap.size _ _ _ _ _ rfl (node_back S3.out (by omega) (by omega) _ _ _ _ _).2.2) rfl ⟨y, rfl, (node_back S3.out (by omega) (by omega) _ _ _ _ _).1, (node_back S3.out (by omega) (by omega) _ _ _ _ _).2.1⟩
end Go.Proofs.Ytlfbmjfbebbdlaa
