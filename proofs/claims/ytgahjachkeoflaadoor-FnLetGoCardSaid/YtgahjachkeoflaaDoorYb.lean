/- The draws of events: an event of a tree, a list of events, a tree with a list; each turns nothing old but the cursor; condition: the code can be read and has at most 4096 bytes. -/
import Derived.Test.YtgahjachkeoflaaDoorDf
import Derived.Test.YtgahjachkeoflaaDoorXr
import Derived.Deep.RegionWith
namespace Go.Proofs.YtgahjachkeoflaaDoor
open Go.RowKit Go.Sort

/-- The state of a draw of an event: its box b and the result's box r. -/
structure EvSt (w wr : World) (g : Nat) (A : Option Addr) (c : Nat) (xs : List Int) (b r : Nat) (x : Ev) : Prop where
  cur : Cur wr g A c xs
  box : Blk wr b 27 #[.int .i64 x.node, .int .i64 x.err, .int .i64 x.cause, .int .i64 x.time]
  res : Blk wr r 27 #[.int .i64 0, .int .i64 0, .int .i64 0, .int .i64 0]
  kept : Kept g (g + 1) w wr
section
variable {w wr wr' : World} {g c b r : Nat} {A : Option Addr} {xs : List Int} {x : Ev}
theorem EvSt.draw (h : EvSt w wr g A c xs b r x) (hb : g ≠ b) (hr : g ≠ r) (hc : Cur wr' g A c xs) (hk : Kept g (g + 1) wr wr') : EvSt w wr' g A c xs b r x :=
  ⟨hc, h.box.kept hk (by omega), h.res.kept hk (by omega), h.kept.trans hk⟩
theorem EvSt.put (h : EvSt w wr g A c xs b r x) (hg : g < b) (hb : w.heap.size ≤ b) (hr : r ≠ b) (i : Nat) (q : Int) (y : Ev) (hy : (#[.int .i64 x.node, .int .i64 x.err, .int .i64 x.cause, .int .i64 x.time] : Array Value).setIfInBounds i (.int .i64 q) = #[.int .i64 y.node, .int .i64 y.err, .int .i64 y.cause, .int .i64 y.time]) :
    EvSt w (wr.setCell ⟨b, i, none⟩ (.int .i64 q)) g A c xs b r y := by
  have k : Kept b (b + 1) wr (wr.setCell ⟨b, i, none⟩ (.int .i64 q)) := (Kept.refl _ _ _).setCell (p := ⟨b, i, none⟩) (.inr ⟨Nat.le_refl _, Nat.lt_succ_self _⟩) _
  have s := h.box.set_ i (.int .i64 q)
  rw [hy] at s
  exact ⟨h.cur.kept k (.inr (by omega)), s, h.res.kept k (by omega), h.kept.trans2 k (.inr hb)⟩
theorem EvSt.put4 (h : EvSt w wr g A c xs b r x) (hg : g < b) (hb : w.heap.size ≤ b) (hr : r ≠ b) (y : Ev) :
    EvSt w ((((wr.setCell ⟨b, 0, none⟩ (.int .i64 y.node)).setCell ⟨b, 1, none⟩ (.int .i64 y.err)).setCell ⟨b, 2, none⟩ (.int .i64 y.cause)).setCell ⟨b, 3, none⟩ (.int .i64 y.time)) g A c xs b r y := by
  have k := kept_set4 wr b (.int .i64 y.node) (.int .i64 y.err) (.int .i64 y.cause) (.int .i64 y.time)
  exact ⟨h.cur.kept k (.inr (by omega)), blk_set4 h.box _ _ _ _, h.res.kept k (by omega), h.kept.trans2 k (.inr hb)⟩
end
def maxI (a b : Int) : Int := if b < a then a else b
theorem maxE_any (a b : Int) (w : World) : Calls Tryd.prog 65 #[.int .i64 a, .int .i64 b] w fun e w' => e = .returned (.int .i64 (maxI a b)) ∧ w = w' := by
  by_cases h : b < a
  · have E : Hid (maxI a b = a) := by show _ = _; simp [maxI, h]
    have g : decide (b < a) = true := by simpa using h
    go_enter Tryd.func65, Tryd.ntmps65
    go_wp2
    go_ret
    exact ⟨ret_int E.out.symm, rfl⟩
  · have E : Hid (maxI a b = b) := by show _ = _; simp [maxI, h]
    have g : decide (b < a) = false := by simpa using h
    go_enter Tryd.func65, Tryd.ntmps65
    go_wp2
    go_ret
    exact ⟨ret_int E.out.symm, rfl⟩
theorem ev_back {w wr : World} {g c b r : Nat} {A : Option Addr} {xs : List Int} {x : Ev} (h : EvSt w wr g A c xs b r x) (hg : g < r) (hr : w.heap.size ≤ r) (v0 v1 v2 v3 : Value) :
    Cur ((((wr.setCell ⟨r, 0, none⟩ v0).setCell ⟨r, 1, none⟩ v1).setCell ⟨r, 2, none⟩ v2).setCell ⟨r, 3, none⟩ v3) g A c xs ∧
    Kept g (g + 1) w ((((wr.setCell ⟨r, 0, none⟩ v0).setCell ⟨r, 1, none⟩ v1).setCell ⟨r, 2, none⟩ v2).setCell ⟨r, 3, none⟩ v3) ∧ Blk ((((wr.setCell ⟨r, 0, none⟩ v0).setCell ⟨r, 1, none⟩ v1).setCell ⟨r, 2, none⟩ v2).setCell ⟨r, 3, none⟩ v3) r 27 #[v0, v1, v2, v3] :=
  ⟨h.cur.kept (kept_set4 wr r v0 v1 v2 v3) (.inr (by omega)), h.kept.trans2 (kept_set4 wr r v0 v1 v2 v3) (.inr hr), blk_set4 h.res v0 v1 v2 v3⟩
/-- What a draw of an event leaves. -/
def DrawnE (g : Nat) (A : Option Addr) (c : Nat) (xs : List Int) (w : World) (e : Ending) (w' : World) : Prop :=
  ∃ x : Ev, e = .returned (.agg #[.int .i64 x.node, .int .i64 x.err, .int .i64 x.cause, .int .i64 x.time]) ∧ Cur w' g A c xs ∧ Kept g (g + 1) w w'
theorem results_ev (tmps : Array Value) (w : World) (r : Nat) (v0 v1 v2 v3 : Value) (hp : tmps[6]?.getD undef = .pointer (some ⟨r, 0, none⟩)) (h : Blk w r 27 #[v0, v1, v2, v3]) :
    (results Tryd.f43 tmps).run Tryd.prog w = .ok (.agg #[v0, v1, v2, v3]) w := by
  have h0 := h.cell 0
  have h1 := h.cell 1
  have h2 := h.cell 2
  have h3 := h.cell 3
  simp [results, Tryd.results43, hp, go_sem, h0, h1, h2, h3]

set_option maxHeartbeats 3200000 in
theorem drawEvent_any (xs : List Int) (A : Option Addr) (c g : Nat) (t : List Nd) (time : Int) (v : Value) (lo hi : Nat) (w : World) (h : Cur w g A c xs) (ht : OwnNd w lo hi v t) (hg : g < lo) (hh : hi ≤ w.heap.size) (h1 : 1 ≤ t.length) (h2 : t.length ≤ 60) :
    Calls Tryd.prog 43 #[.pointer (some ⟨g, 0, none⟩), v, .int .i64 time] w (DrawnE g A c xs w) := by
  have gl := h.lt
  obtain ⟨D, d, rfl, ht⟩ := ht
  have HT := Lib.hid ht
  obtain ⟨bt, rfl, hbt⟩ : ∃ bt, D = some ⟨bt, 0, none⟩ ∧ g < bt := by
    rcases ht.form with ⟨_, h0, _⟩ | ⟨b, h1, h2, _⟩
    · exfalso; omega
    · exact ⟨b, h1, by omega⟩
  clear ht
  obtain ⟨W, hW⟩ : ∃ W, W = w.alloc (.cells #[.int .i64 0, .int .i64 0, .int .i64 0, .int .i64 0] 27) := ⟨_, rfl⟩
  have kW : Kept 0 0 w W := by rw [hW]; exact Kept.alloc0 _ _
  have C0 := Lib.hid (h.kept kW (.inl (Nat.le_refl _)))
  have R0 : Hid (Blk W w.heap.size 27 #[.int .i64 0, .int .i64 0, .int .i64 0, .int .i64 0]) := by show Blk _ _ _ _; rw [hW]; exact Blk.new _ _ _
  have K0 : Hid (Kept g (g + 1) w W) := kW.wide (.inl (Nat.le_refl _))
  have HW := Lib.hid hW
  clear hW h kW
  have i0 : (1 : Int) ≤ (t.length : Int) := by omega
  have i00 : (t.length : Int) ≤ 60 := by omega
  go_enter Tryd.func43, Tryd.ntmps43
  go_wp2_with fail
  rw [← HW.out]
  with_reducible refine (below_any _ _ _ _ _ _ C0.out (by omega) (by omega)).mono ?_
  rintro e w1 ⟨r, rfl, ⟨hr0, hr1⟩, hc, hk⟩
  obtain ⟨n, rfl⟩ := Int.eq_ofNat_of_zero_le hr0
  have hn : n < t.length := by omega
  have C1 := Lib.hid hc
  have R1 := Lib.hid (R0.out.kept hk (by omega))
  have K1 := Lib.hid (K0.out.trans hk)
  have z1 : w.heap.size < w1.heap.size := R1.out.lt
  clear hc hk C0 R0 K0 HW
  go_wp2_with fail
  with_reducible refine (below_any _ _ _ _ _ _ C1.out (by omega) (by omega)).mono ?_
  rintro e w2 ⟨ca, rfl, -, hc, hk⟩
  obtain ⟨V, hV⟩ : ∃ V, V = w2.alloc (.cells #[.int .i64 (n : Int), .int .i64 1, .int .i64 ca, .int .i64 time] 27) := ⟨_, rfl⟩
  have z2 := hk.size
  have S2 : Hid (EvSt w V g A c xs w2.heap.size w.heap.size ⟨(n : Int), 1, ca, time⟩) := by
    rw [hV]
    exact ⟨hc.kept (Kept.alloc0 _ _) (.inl (Nat.le_refl _)), Blk.new _ _ _, (R1.out.kept hk (by omega)).alloc _, (K1.out.trans hk).alloc _⟩
  have HV := Lib.hid hV
  obtain ⟨bx, hbx⟩ : ∃ bx, bx = w2.heap.size := ⟨_, rfl⟩
  have hb1 : w.heap.size < bx := by omega
  have zV : bx < V.heap.size := by rw [hV, hbx]; simp
  have HBX := Lib.hid hbx
  rw [← hbx] at S2
  clear hc hk C1 R1 K1 hV hbx
  go_upto_region 3 with fail
  rw [← HV.out, ← HBX.out]
  clear HV HBX
  have OT := Lib.hid (HT.out.kept S2.out.kept (by omega))
  have c0 : V.cell? ⟨bt, n * 5, none⟩ = some (.int .i64 t[n].kind) := own_at (R := ndR) OT.out.1 hn 0 rfl
  have i1 : (n : Int) < (t.length : Int) := by omega
  have nb1 : bx ≠ w.heap.size := by omega
  by_cases hk2 : t[n].kind = 2
  · have g2 : (t[n].kind == 2) = true := by simpa using hk2
    clear hk2
    go_wp2_with fail
    with_reducible refine (once_any _ _ _ _ _ _ S2.out.cur (by omega) (by omega)).mono ?_
    rintro e w3 ⟨b, rfl, hc, hk⟩
    have S3 := Lib.hid (S2.out.draw (by omega) (by omega) hc hk)
    have z3 : bx < w3.heap.size := S3.out.box.lt
    clear hc hk S2 c0 OT zV
    cases b with
    | false =>
      have bb0 := S3.out.box.cell 0
      have bb1 := S3.out.box.cell 1
      have bb2 := S3.out.box.cell 2
      have bb3 := S3.out.box.cell 3
      have rr0 := S3.out.res.cell 0
      have rr1 := S3.out.res.cell 1
      have rr2 := S3.out.res.cell 2
      have rr3 := S3.out.res.cell 3
      have ff0 := S3.out.res.frozen 0
      have ff1 := S3.out.res.frozen 1
      have ff2 := S3.out.res.frozen 2
      have ff3 := S3.out.res.frozen 3
      go_wp2_with fail
      have BK := Lib.hid (ev_back S3.out gl (Nat.le_refl _) (.int .i64 (n : Int)) (.int .i64 1) (.int .i64 ca) (.int .i64 time))
      exact bodyPost_ret (results_ev _ _ w.heap.size _ _ _ _ rfl BK.out.2.2) rfl ⟨⟨(n : Int), 1, ca, time⟩, rfl, BK.out.1, BK.out.2.1⟩
    | true =>
      have bb0 := S3.out.box.cell 0
      have bb1 := S3.out.box.cell 1
      have bb2 := S3.out.box.cell 2
      have bb3 := S3.out.box.cell 3
      have fb0 := S3.out.box.frozen 0
      have fb1 := S3.out.box.frozen 1
      have fb2 := S3.out.box.frozen 2
      have fb3 := S3.out.box.frozen 3
      have S4 := Lib.hid (S3.out.put4 (by omega) (by omega) (by omega) ⟨(n : Int), 2, 0, time⟩)
      obtain ⟨V4, hV4⟩ : ∃ V4, V4 = ((((w3.setCell ⟨bx, 0, none⟩ (.int .i64 (n : Int))).setCell ⟨bx, 1, none⟩ (.int .i64 2)).setCell ⟨bx, 2, none⟩ (.int .i64 0)).setCell ⟨bx, 3, none⟩ (.int .i64 time)) := ⟨_, rfl⟩
      rw [← hV4] at S4
      have HV4 := Lib.hid hV4
      clear hV4 S3
      go_upto_region 5 with fail
      rw [← HV4.out]
      clear HV4 bb0 bb1 bb2 bb3 fb0 fb1 fb2 fb3
      have OT := Lib.hid (HT.out.kept S4.out.kept (by omega))
      have z4 : bx < V4.heap.size := S4.out.box.lt
      have c2 : V4.cell? ⟨bt, n * 5 + 2, none⟩ = some (.int .i64 t[n].due) := own_at (R := ndR) OT.out.1 hn 2 rfl
      by_cases hd : t[n].due = 9223372036854775807
      · have g3 : (t[n].due != 9223372036854775807) = false := by simp [hd]
        clear hd
        have bb0 := S4.out.box.cell 0
        have bb1 := S4.out.box.cell 1
        have bb2 := S4.out.box.cell 2
        have bb3 := S4.out.box.cell 3
        have rr0 := S4.out.res.cell 0
        have rr1 := S4.out.res.cell 1
        have rr2 := S4.out.res.cell 2
        have rr3 := S4.out.res.cell 3
        have ff0 := S4.out.res.frozen 0
        have ff1 := S4.out.res.frozen 1
        have ff2 := S4.out.res.frozen 2
        have ff3 := S4.out.res.frozen 3
        go_wp2_with fail
        have BK := Lib.hid (ev_back S4.out gl (Nat.le_refl _) (.int .i64 (n : Int)) (.int .i64 2) (.int .i64 0) (.int .i64 time))
        exact bodyPost_ret (results_ev _ _ w.heap.size _ _ _ _ rfl BK.out.2.2) rfl ⟨⟨(n : Int), 2, 0, time⟩, rfl, BK.out.1, BK.out.2.1⟩
      · have g3 : (t[n].due != 9223372036854775807) = true := by simpa using hd
        clear hd
        go_wp2_with fail
        with_reducible refine (once_any _ _ _ _ _ _ S4.out.cur (by omega) (by omega)).mono ?_
        rintro e w5 ⟨b, rfl, hc, hk⟩
        have S5 := Lib.hid (S4.out.draw (by omega) (by omega) hc hk)
        have z5 : bx < w5.heap.size := S5.out.box.lt
        clear hc hk S4 c2 OT
        cases b with
        | true =>
          have bb0 := S5.out.box.cell 0
          have bb1 := S5.out.box.cell 1
          have bb2 := S5.out.box.cell 2
          have bb3 := S5.out.box.cell 3
          have rr0 := S5.out.res.cell 0
          have rr1 := S5.out.res.cell 1
          have rr2 := S5.out.res.cell 2
          have rr3 := S5.out.res.cell 3
          have ff0 := S5.out.res.frozen 0
          have ff1 := S5.out.res.frozen 1
          have ff2 := S5.out.res.frozen 2
          have ff3 := S5.out.res.frozen 3
          go_wp2_with fail
          have BK := Lib.hid (ev_back S5.out gl (Nat.le_refl _) (.int .i64 (n : Int)) (.int .i64 2) (.int .i64 0) (.int .i64 time))
          exact bodyPost_ret (results_ev _ _ w.heap.size _ _ _ _ rfl BK.out.2.2) rfl ⟨⟨(n : Int), 2, 0, time⟩, rfl, BK.out.1, BK.out.2.1⟩
        | false =>
          have OT := Lib.hid (HT.out.kept S5.out.kept (by omega))
          have c2 : w5.cell? ⟨bt, n * 5 + 2, none⟩ = some (.int .i64 t[n].due) := own_at (R := ndR) OT.out.1 hn 2 rfl
          go_wp2_with fail
          with_reducible refine (maxE_any _ _ _).mono ?_
          rintro e w' ⟨rfl, rfl⟩
          obtain ⟨mt, hmt⟩ : ∃ mt, mt = maxI time t[n].due := ⟨_, rfl⟩
          rw [← hmt]
          have bb3 := S5.out.box.cell 3
          have fb3 := S5.out.box.frozen 3
          have S6 := Lib.hid (S5.out.put (by omega) (by omega) (by omega) 3 mt ⟨(n : Int), 2, 0, mt⟩ rfl)
          obtain ⟨V6, hV6⟩ : ∃ V6, V6 = w5.setCell ⟨bx, 3, none⟩ (.int .i64 mt) := ⟨_, rfl⟩
          rw [← hV6] at S6
          have HV6 := Lib.hid hV6
          clear hV6 S5 hmt c2 OT
          go_upto_region 7 with fail
          rw [← HV6.out]
          clear HV6 bb3 fb3
          have bb0 := S6.out.box.cell 0
          have bb1 := S6.out.box.cell 1
          have bb2 := S6.out.box.cell 2
          have bb3 := S6.out.box.cell 3
          have rr0 := S6.out.res.cell 0
          have rr1 := S6.out.res.cell 1
          have rr2 := S6.out.res.cell 2
          have rr3 := S6.out.res.cell 3
          have ff0 := S6.out.res.frozen 0
          have ff1 := S6.out.res.frozen 1
          have ff2 := S6.out.res.frozen 2
          have ff3 := S6.out.res.frozen 3
          go_wp2_with fail
          have BK := Lib.hid (ev_back S6.out gl (Nat.le_refl _) (.int .i64 (n : Int)) (.int .i64 2) (.int .i64 0) (.int .i64 mt))
          exact bodyPost_ret (results_ev _ _ w.heap.size _ _ _ _ rfl BK.out.2.2) rfl ⟨⟨(n : Int), 2, 0, mt⟩, rfl, BK.out.1, BK.out.2.1⟩
  · have g2 : (t[n].kind == 2) = false := by simpa using hk2
    clear hk2
    have bb0 := S2.out.box.cell 0
    have bb1 := S2.out.box.cell 1
    have bb2 := S2.out.box.cell 2
    have bb3 := S2.out.box.cell 3
    have rr0 := S2.out.res.cell 0
    have rr1 := S2.out.res.cell 1
    have rr2 := S2.out.res.cell 2
    have rr3 := S2.out.res.cell 3
    have ff0 := S2.out.res.frozen 0
    have ff1 := S2.out.res.frozen 1
    have ff2 := S2.out.res.frozen 2
    have ff3 := S2.out.res.frozen 3
    go_wp2_with fail
    have BK := Lib.hid (ev_back S2.out gl (Nat.le_refl _) (.int .i64 (n : Int)) (.int .i64 1) (.int .i64 ca) (.int .i64 time))
    exact bodyPost_ret (results_ev _ _ w.heap.size _ _ _ _ rfl BK.out.2.2) rfl ⟨⟨(n : Int), 1, ca, time⟩, rfl, BK.out.1, BK.out.2.1⟩
end Go.Proofs.YtgahjachkeoflaaDoor
