/- The draw of timers, valid or not: timers in new memory; condition: the code can be read and has at most 4096 bytes. -/
import Derived.Test.YtnphjohmkjoefaaUb
namespace Go.Proofs.Ytnphjohmkjoefaa
open Go.RowKit Go.Sort

theorem results_l4DrawAny (tmps : Array Value) (w : World) (r : Nat) (v0 v1 v2 : Value) (hp : tmps[2]?.getD undef = .pointer (some ⟨r, 0, none⟩)) (h : Blk w r 27 #[v0, v1, v2]) :
    (results Try.f29 tmps).run Try.prog w = .ok (.agg #[v0, v1, v2]) w := by
  have h0 := h.cell 0
  have h1 := h.cell 1
  have h2 := h.cell 2
  simp [results, Try.results29, hp, go_sem, h0, h1, h2]
theorem min4_any (a b : Int) (w : World) :
    Calls Try.prog 67 #[.int .i64 a, .int .i64 b] w fun e w' => e = .returned (.int .i64 (if a < b then a else b)) ∧ w = w' := by
  by_cases h : a < b
  · rw [if_pos h]
    have h' : decide (a < b) = true := by simpa using h
    go_enter Try.func67, Try.ntmps67
    go_wp2
    go_ret
    exact ⟨rfl, rfl⟩
  · rw [if_neg h]
    have h' : decide (a < b) = false := by simpa using h
    go_enter Try.func67, Try.ntmps67
    go_wp2
    go_ret
    exact ⟨rfl, rfl⟩
set_option maxHeartbeats 1600000 in
theorem numS_any (xs : List Int) (A : Option Addr) (c g : Nat) (most : Int) (w : World) (h : Cur w g A c xs) (h1 : 1 ≤ most) (h2 : most ≤ 200) :
    Calls Try.prog 50 #[.pointer (some ⟨g, 0, none⟩), .int .i64 most] w (Drawn (fun _ => True) g A c xs w) := by
  have H := Lib.hid h
  clear h
  go_enter Try.func50, Try.ntmps50
  go_wp2_with fail
  with_reducible refine (once_any _ _ _ _ _ _ H.out (by omega) (by omega)).mono ?_
  rintro e w1 ⟨b, rfl, hc, hk⟩
  have HC1 := Lib.hid hc
  have HK1 := Lib.hid hk
  clear hc hk H
  cases b with
  | true =>
    go_wp2_with fail
    with_reducible refine (odd_any _ _ _ _ _ HC1.out).mono ?_
    rintro e w2 ⟨o, rfl, -, hc, hk⟩
    have HC2 := Lib.hid (hc.kept (Kept.alloc0 w2 (.cells #[.int .i64 (-1), .int .i64 most, .int .i64 (most + 1), .int .i64 o] 2)) (.inl (Nat.le_refl _)))
    have HK2 := Lib.hid (HK1.out.trans hk |>.alloc (.cells #[.int .i64 (-1), .int .i64 most, .int .i64 (most + 1), .int .i64 o] 2))
    have hg := hc.lt
    clear hc hk HC1 HK1
    go_wp2_with fail
    with_reducible refine (below_any _ _ _ _ _ _ HC2.out (by omega) (by omega)).mono ?_
    rintro e w3 ⟨r, rfl, ⟨hr0, hr1⟩, hc, hk⟩
    have b : Blk w3 w2.heap.size 2 #[.int .i64 (-1), .int .i64 most, .int .i64 (most + 1), .int .i64 o] := (Blk.new _ _ _).kept hk (by omega)
    have HC3 := Lib.hid hc
    have HK3 := Lib.hid (HK2.out.trans hk)
    obtain ⟨k, rfl⟩ := Int.eq_ofNat_of_zero_le hr0
    obtain ⟨q, hq⟩ : ∃ q : Int, w3.cell? ⟨w2.heap.size, k, none⟩ = some (.int .i64 q) := by
      rcases (by omega : k = 0 ∨ k = 1 ∨ k = 2 ∨ k = 3) with rfl | rfl | rfl | rfl
      · exact ⟨_, b.cell 0⟩
      · exact ⟨_, b.cell 1⟩
      · exact ⟨_, b.cell 2⟩
      · exact ⟨_, b.cell 3⟩
    clear hc hk b HC2 HK2
    go_wp2
    go_ret
    exact ⟨q, rfl, trivial, HC3.out, HK3.out⟩
  | false =>
    go_wp2_with fail
    with_reducible refine (once_any _ _ _ _ _ _ HC1.out (by omega) (by omega)).mono ?_
    rintro e w2 ⟨b, rfl, hc, hk⟩
    have HC2 := Lib.hid hc
    have HK2 := Lib.hid (HK1.out.trans hk)
    clear hc hk HC1 HK1
    cases b with
    | true =>
      obtain ⟨mn, hmn⟩ : ∃ mn, mn = if most < 4 then most else 4 := ⟨_, rfl⟩
      have m1 : 1 ≤ mn := by rw [hmn]; split <;> omega
      have m2 : mn ≤ 4 := by rw [hmn]; split <;> omega
      have HMN := Lib.hid hmn
      clear hmn
      go_wp2_with fail
      with_reducible refine (min4_any _ _ _).mono ?_
      rintro e w' ⟨rfl, rfl⟩
      rw [← HMN.out]
      go_wp2_with fail
      with_reducible refine (below_any _ _ _ _ _ _ HC2.out (by omega) (by omega)).mono ?_
      rintro e w3 ⟨r, rfl, -, hc, hk⟩
      have HC3 := Lib.hid hc
      have HK3 := Lib.hid (HK2.out.trans hk)
      clear hc hk
      go_wp2
      go_ret
      exact ⟨_, rfl, trivial, HC3.out, HK3.out⟩
    | false =>
      go_wp2_with fail
      with_reducible refine (below_any _ _ _ _ _ _ HC2.out (by omega) (by omega)).mono ?_
      rintro e w3 ⟨r, rfl, -, hc, hk⟩
      have HC3 := Lib.hid hc
      have HK3 := Lib.hid (HK2.out.trans hk)
      clear hc hk
      go_wp2
      go_ret
      exact ⟨_, rfl, trivial, HC3.out, HK3.out⟩

section
variable {w wr wr' : World} {g c bt d1 d2 : Nat} {A D1 D2 : Option Addr} {xs : List Int} {T : Tms}
theorem kept_set1 (w : World) (b i : Nat) (v : Value) : Kept b (b + 1) w (w.setCell ⟨b, i, none⟩ v) := Kept.setCell (Kept.refl b (b + 1) w) (p := ⟨b, i, none⟩) (.inr ⟨Nat.le_refl _, Nat.lt_succ_self _⟩) v
/-- Another next Seq. -/
theorem TimSt.setNext (h : TimSt w wr g A c xs bt D1 d1 D2 d2 T) (q : Int) : TimSt w (wr.setCell ⟨bt, 2, none⟩ (.int .i64 q)) g A c xs bt D1 d1 D2 d2 ⟨T.heap, T.list, q⟩ := by
  have k := kept_set1 wr bt 2 (.int .i64 q)
  have h1 := h.hg
  have h2 := h.hbt
  have o := ownM_blk h.own h.box k
  refine ⟨h.cur.kept k (.inr (by omega)), h.res.kept k (by omega), h.box.set_ 2 _, ?_, h.kept.trans2 k (.inr (by omega)), h.hg, h.hbt⟩
  obtain ⟨_, _, e, a, b⟩ := o.wide (Nat.le_refl _) k.size
  injection e with e
  injection e with e
  injection e with e1 e
  injection e with e2 e
  subst e1 e2
  exact ⟨_, _, rfl, a, b⟩
/-- Another heap. -/
theorem TimSt.setHeap (h : TimSt w wr g A c xs bt D1 d1 D2 d2 T) {hp : List Tw} {D3 : Option Addr} {d3 lo hi : Nat} (hl : w.heap.size ≤ lo) (hh : hi ≤ wr.heap.size) (ho : OwnT wr lo hi (.slice D3 hp.length d3) hp) : TimSt w (wr.setCell ⟨bt, 0, none⟩ (.slice D3 hp.length d3)) g A c xs bt D3 d3 D2 d2 ⟨hp, T.list, T.next⟩ := by
  have k := kept_set1 wr bt 0 (.slice D3 hp.length d3)
  have h1 := h.hg
  have h2 := h.hbt
  obtain ⟨_, _, e, a, b⟩ := h.own
  injection e with e
  injection e with e
  injection e with e1 e
  injection e with e2 e
  subst e1 e2
  have o : OwnM wr w.heap.size wr.heap.size (.agg #[.slice D3 hp.length d3, .slice D2 T.list.length d2, .int .i64 T.next]) ⟨hp, T.list, T.next⟩ := ⟨_, _, rfl, ho.wide hl hh, b⟩
  exact ⟨h.cur.kept k (.inr (by omega)), h.res.kept k (by omega), h.box.set_ 0 _, (ownM_blk o h.box k).wide (Nat.le_refl _) k.size, h.kept.trans2 k (.inr (by omega)), h.hg, h.hbt⟩
/-- A field of the first timer is turned. -/
theorem TimSt.elem {b : Nat} (h : TimSt w wr g A c xs bt D1 d1 (some ⟨b, 0, none⟩) d2 T) (hn : 0 < T.list.length) (j : Nat) (hj : j < 5) (u : Value) (x : Tm) (hx : tmR.cells x = (tmR.cells T.list[0]).set j u) :
    TimSt w (wr.setCell ⟨b, 0 * 5 + j, none⟩ u) g A c xs bt D1 d1 (some ⟨b, 0, none⟩) d2 ⟨T.heap, T.list.set 0 x, T.next⟩ := by
  obtain ⟨_, _, e, ⟨E1, e1, f1, a⟩, ⟨E2, e2, f2, o⟩⟩ := h.own
  injection e with e
  injection e with e
  injection e with q1 e
  injection e with q2 e
  subst q1 q2
  injection f1 with f1 _ f1'
  injection f2 with f2 _ f2'
  subst f1 f1' f2 f2'
  have hb := (own_row_lo o.1 b rfl).1
  obtain ⟨cs, hB⟩ := row_blk o.1 (b := b) rfl
  have k := kept_set1 wr b (0 * 5 + j) u
  have h1 := h.hg
  have h2 := h.hbt
  have n1 := blk_ne h.res hB (by decide)
  have n2 := blk_ne h.box hB (by decide)
  refine ⟨h.cur.kept k (.inr (by omega)), h.res.kept k (by omega), ?_, ⟨_, _, rfl, ⟨D1, d1, rfl, ?_⟩, ⟨some ⟨b, 0, none⟩, d2, rfl, ?_⟩⟩, h.kept.trans2 k (.inr hb), h.hg, h.hbt⟩
  · rw [List.length_set]; exact h.box.kept k (by omega)
  · exact ((show OwnZ _ _ _ _ _ _ _ _ _ from ⟨row_other a.1 (row_ne a.1 hB (by decide)) k, a.2⟩).wide (Nat.le_refl _) k.size)
  · rw [List.length_set]
    exact OwnZ.wide (OwnZ.of_row (own_set1Tm o.1 hn j hj u x hx)) (Nat.le_refl _) (Nat.le_refl _)
/-- The first timer's cells. -/
theorem TimSt.first (h : TimSt w wr g A c xs bt D1 d1 D2 d2 T) (hn : 0 < T.list.length) : ∃ b, D2 = some ⟨b, 0, none⟩ ∧ (∀ j u, (tmR.cells T.list[0])[j]? = some u → wr.cell? ⟨b, j, none⟩ = some u) ∧ ∀ j, wr.frozen? ⟨b, j, none⟩ = false := by
  obtain ⟨_, _, e, _, ⟨E2, e2, f2, o⟩⟩ := h.own
  injection e with e
  injection e with e
  injection e with q1 e
  injection e with q2 e
  subst q1 q2
  injection f2 with f2 _ f2'
  subst f2 f2'
  rcases o.form with ⟨_, h0, _⟩ | ⟨b, h1, _⟩
  · exfalso; omega
  · subst h1
    refine ⟨b, rfl, fun j u hu => ?_, fun j => o.1.frozenAt _⟩
    have := own_at (R := tmR) o.1 hn j hu
    simpa using this
end

set_option maxHeartbeats 16000000 in
set_option maxRecDepth 100000 in
theorem drawMAny_any (xs : List Int) (A : Option Addr) (c g : Nat) (w : World) (hc0 : Cur w g A c xs) :
    Calls Try.prog 29 #[.pointer (some ⟨g, 0, none⟩)] w (DrawnG g A c xs w) := by
  have hg := hc0.lt
  obtain ⟨W, hW⟩ : ∃ W, W = w.alloc (.cells #[.slice none 0 0, .slice none 0 0, .int .i64 0] 27) := ⟨_, rfl⟩
  have kW : Kept 0 0 w W := by rw [hW]; exact Kept.alloc0 _ _
  have B0 : Hid (Blk W w.heap.size 27 #[.slice none 0 0, .slice none 0 0, .int .i64 0]) := by show Blk _ _ _ _; rw [hW]; exact Blk.new _ _ _
  have CM := Lib.hid (drawM_any xs A c g W (hc0.kept kW (.inl (Nat.le_refl _))))
  have K0 : Hid (Kept g (g + 1) w W) := kW.wide (.inl (Nat.le_refl _))
  have zW : w.heap.size + 1 ≤ W.heap.size := by rw [hW]; simp
  have HW := Lib.hid hW
  clear hc0 kW hW
  go_enter Try.func29, Try.ntmps29
  go_wp2_with fail
  rw [← HW.out]
  clear HW
  with_reducible refine CM.out.mono ?_
  rintro e w1 ⟨_, T, rfl, ⟨_, _, rfl, ⟨D1, d1, rfl, oa⟩, ⟨D2, d2, rfl, ob⟩⟩, tl, hc, hk⟩
  obtain ⟨V, hV⟩ : ∃ V, V = w1.alloc (.cells #[.slice D1 T.heap.length d1, .slice D2 T.list.length d2, .int .i64 T.next] 27) := ⟨_, rfl⟩
  have z1 := hk.size
  have S1 : Hid (TimSt w V g A c xs w1.heap.size D1 d1 D2 d2 T) := by
    rw [hV]
    refine ⟨hc.kept (Kept.alloc0 _ _) (.inl (Nat.le_refl _)), (B0.out.kept hk (by omega)).alloc _, Blk.new _ _ _, ?_, (K0.out.trans hk).alloc _, hg, by omega⟩
    exact (OwnM.kept (⟨_, _, rfl, ⟨D1, d1, rfl, oa⟩, ⟨D2, d2, rfl, ob⟩⟩ : OwnM w1 W.heap.size w1.heap.size (.agg #[.slice D1 T.heap.length d1, .slice D2 T.list.length d2, .int .i64 T.next]) T) (Kept.alloc0 _ _) (.inl (Nat.le_refl _))).wide (by omega) (by simp)
  have HV := Lib.hid hV
  have TL := Lib.hid tl
  obtain ⟨bt, hbt⟩ : ∃ bt, bt = w1.heap.size := ⟨_, rfl⟩
  rw [← hbt] at S1
  clear hc hk hV B0 K0 z1 oa ob CM tl
  go_upto_region 2 with fail
  rw [← HV.out, ← hbt]
  clear HV hbt
  go_wp2_with fail
  with_reducible refine (once_any _ _ _ _ _ _ S1.out.cur (by omega) (by omega)).mono ?_
  rintro e w2 ⟨b, rfl, hc, hk⟩
  have S2 := Lib.hid (S1.out.draw hc hk)
  clear hc hk S1
  cases b with
  | false =>
    have y0 := S2.out.box.cell 0
    have r0 := S2.out.res.cell 0
    have g0 := S2.out.res.frozen 0
    have y1 := S2.out.box.cell 1
    have r1 := S2.out.res.cell 1
    have g1 := S2.out.res.frozen 1
    have y2 := S2.out.box.cell 2
    have r2 := S2.out.res.cell 2
    have g2 := S2.out.res.frozen 2
    have FO := Lib.hid S2.out.out
    clear S2
    go_wp2_with fail
    exact bodyPost_ret (results_l4DrawAny _ _ w.heap.size _ _ _ rfl FO.out.1) rfl ⟨_, T, rfl, FO.out.2.1, TL.out, FO.out.2.2.1, FO.out.2.2.2⟩
  | true =>
    go_wp2_with fail
    with_reducible refine (below_any _ _ _ _ _ _ S2.out.cur (by omega) (by omega)).mono ?_
    rintro e w3 ⟨s, rfl, ⟨hs0, hs1⟩, hc, hk⟩
    have S3 := Lib.hid (S2.out.draw hc hk)
    clear hc hk S2
    rcases (by omega : s = 0 ∨ s = 1 ∨ s = 2 ∨ s = 3) with rfl | rfl | rfl | rfl
    · have S4 := Lib.hid (S3.out.same (Kept.alloc0 w3 (.cells #[.int .i64 (-1), .int .i64 0, .int .i64 1000000, .int .i64 1000001] 2)))
      have BL : Hid (Blk (w3.alloc (.cells #[.int .i64 (-1), .int .i64 0, .int .i64 1000000, .int .i64 1000001] 2)) w3.heap.size 2 #[.int .i64 (-1), .int .i64 0, .int .i64 1000000, .int .i64 1000001]) := Blk.new _ _ _
      have z3 := S3.out.kept.size
      clear S3
      go_wp2_with fail
      with_reducible refine (below_any _ _ _ _ _ _ S4.out.cur (by omega) (by omega)).mono ?_
      rintro e w5 ⟨q, rfl, ⟨hq0, hq1⟩, hc, hk⟩
      have S5 := Lib.hid (S4.out.draw hc hk)
      have bl := BL.out.kept hk (by omega)
      obtain ⟨k, rfl⟩ := Int.eq_ofNat_of_zero_le hq0
      obtain ⟨nx, hnx⟩ : ∃ nx : Int, w5.cell? ⟨w3.heap.size, k, none⟩ = some (.int .i64 nx) := by
        rcases (by omega : k = 0 ∨ k = 1 ∨ k = 2 ∨ k = 3) with rfl | rfl | rfl | rfl
        · exact ⟨_, bl.cell 0⟩
        · exact ⟨_, bl.cell 1⟩
        · exact ⟨_, bl.cell 2⟩
        · exact ⟨_, bl.cell 3⟩
      have t2 := S5.out.box.cell 2
      have f2 := S5.out.box.frozen 2
      have S6 := Lib.hid (S5.out.setNext nx)
      obtain ⟨U, hU⟩ : ∃ U, U = w5.setCell ⟨bt, 2, none⟩ (.int .i64 nx) := ⟨_, rfl⟩
      rw [← hU] at S6
      have HU := Lib.hid hU
      clear hc hk S4 S5 BL bl hU
      go_upto_region 15 with fail
      rw [← HU.out]
      clear HU hnx t2 f2
      have y0 := S6.out.box.cell 0
      have r0 := S6.out.res.cell 0
      have g0 := S6.out.res.frozen 0
      have y1 := S6.out.box.cell 1
      have r1 := S6.out.res.cell 1
      have g1 := S6.out.res.frozen 1
      have y2 := S6.out.box.cell 2
      have r2 := S6.out.res.cell 2
      have g2 := S6.out.res.frozen 2
      have FO := Lib.hid S6.out.out
      clear S6
      go_wp2_with fail
      exact bodyPost_ret (results_l4DrawAny _ _ w.heap.size _ _ _ rfl FO.out.1) rfl ⟨_, ⟨T.heap, T.list, nx⟩, rfl, FO.out.2.1, TL.out, FO.out.2.2.1, FO.out.2.2.2⟩
    · have z3 := S3.out.kept.size
      go_wp2_with fail
      with_reducible refine (drawAny_any _ _ _ _ _ _ S3.out.cur).mono ?_
      rintro e w5 ⟨_, hp, rfl, -, ⟨D3, d3, rfl, ho⟩, hc, hk⟩
      have S5 := Lib.hid (S3.out.draw hc hk)
      have t0 := S5.out.box.cell 0
      have f0 := S5.out.box.frozen 0
      have S6 := Lib.hid (S5.out.setHeap z3 (Nat.le_refl _) ⟨D3, d3, rfl, ho⟩)
      obtain ⟨U, hU⟩ : ∃ U, U = w5.setCell ⟨bt, 0, none⟩ (.slice D3 hp.length d3) := ⟨_, rfl⟩
      rw [← hU] at S6
      have HU := Lib.hid hU
      clear hc hk S3 S5 ho hU
      go_upto_region 15 with fail
      rw [← HU.out]
      clear HU t0 f0
      have y0 := S6.out.box.cell 0
      have r0 := S6.out.res.cell 0
      have g0 := S6.out.res.frozen 0
      have y1 := S6.out.box.cell 1
      have r1 := S6.out.res.cell 1
      have g1 := S6.out.res.frozen 1
      have y2 := S6.out.box.cell 2
      have r2 := S6.out.res.cell 2
      have g2 := S6.out.res.frozen 2
      have FO := Lib.hid S6.out.out
      clear S6
      go_wp2_with fail
      exact bodyPost_ret (results_l4DrawAny _ _ w.heap.size _ _ _ rfl FO.out.1) rfl ⟨_, ⟨hp, T.list, T.next⟩, rfl, FO.out.2.1, TL.out, FO.out.2.2.1, FO.out.2.2.2⟩
    · have t1 := S3.out.box.cell 1
      by_cases hn : 0 < T.list.length
      · have i1 : (0 : Int) < (T.list.length : Int) := by omega
        obtain ⟨bL, rfl, cl, fl⟩ := S3.out.first hn
        have e4 := cl 4 _ rfl
        have f4 := fl 4
        obtain ⟨x, hx⟩ : ∃ x : Tm, x = ⟨T.list[0].seq, T.list[0].due, T.list[0].what, T.list[0].whom, !T.list[0].armed⟩ := ⟨_, rfl⟩
        have S4 := Lib.hid (S3.out.elem hn 4 (by decide) (.bool !T.list[0].armed) x (by rw [hx]; rfl))
        rw [show 0 * 5 + 4 = 4 from rfl] at S4
        clear cl fl hx S3
        go_upto_region 10 with fail
        go_region
        all_goals
          go_upto_region 15 with fail
          obtain ⟨U, hU⟩ : ∃ U, U = (w3.setCell ⟨bL, 4, none⟩ (.bool !T.list[0].armed)).drew := ⟨_, rfl⟩
          obtain ⟨T2, hT2⟩ : ∃ T2 : Tms, T2 = ⟨T.heap, T.list.set 0 x, T.next⟩ := ⟨_, rfl⟩
          have S5 : Hid (TimSt w U g A c xs bt D1 d1 (some ⟨bL, 0, none⟩) d2 T2) := by rw [hU, hT2]; exact S4.out.same ((Kept.refl 0 0 _).drew)
          have EL : Hid (T2.list.length ≤ 64) := by show _ ≤ _; rw [hT2, List.length_set]; exact TL.out
          rw [← hU]
          clear hU S4 t1 e4 f4 hT2
          have y0 := S5.out.box.cell 0
          have r0 := S5.out.res.cell 0
          have g0 := S5.out.res.frozen 0
          have y1 := S5.out.box.cell 1
          have r1 := S5.out.res.cell 1
          have g1 := S5.out.res.frozen 1
          have y2 := S5.out.box.cell 2
          have r2 := S5.out.res.cell 2
          have g2 := S5.out.res.frozen 2
          have FO := Lib.hid S5.out.out
          clear S5
          go_wp2_with fail
          exact bodyPost_ret (results_l4DrawAny _ _ w.heap.size _ _ _ rfl FO.out.1) rfl ⟨_, T2, rfl, FO.out.2.1, EL.out, FO.out.2.2.1, FO.out.2.2.2⟩
      · have i1 : ¬ (0 : Int) < (T.list.length : Int) := by omega
        go_upto_region 15 with fail
        clear t1
        have y0 := S3.out.box.cell 0
        have r0 := S3.out.res.cell 0
        have g0 := S3.out.res.frozen 0
        have y1 := S3.out.box.cell 1
        have r1 := S3.out.res.cell 1
        have g1 := S3.out.res.frozen 1
        have y2 := S3.out.box.cell 2
        have r2 := S3.out.res.cell 2
        have g2 := S3.out.res.frozen 2
        have FO := Lib.hid S3.out.out
        clear S3
        go_wp2_with fail
        exact bodyPost_ret (results_l4DrawAny _ _ w.heap.size _ _ _ rfl FO.out.1) rfl ⟨_, T, rfl, FO.out.2.1, TL.out, FO.out.2.2.1, FO.out.2.2.2⟩
    · have t1 := S3.out.box.cell 1
      by_cases hn : 0 < T.list.length
      · have i1 : (0 : Int) < (T.list.length : Int) := by omega
        obtain ⟨bL, rfl, cl, fl⟩ := S3.out.first hn
        clear cl fl
        go_upto_region 13 with fail
        go_region_with (go_at_call 50; refine (numS_any xs A c g 99 w3.drew (S3.out.cur.kept ((Kept.refl 0 0 w3).drew) (.inl (Nat.le_refl _))) (by omega) (by omega)).mono ?_; rintro e' w4 ⟨q13, rfl, -, hc, hk⟩; have S3n := Lib.hid (S3.out.draw hc ((Kept.refl _ _ _).drew.trans hk)); have t1n := S3n.out.box.cell 1; obtain ⟨bL', eL', cl', fl'⟩ := S3n.out.first hn; injection eL' with eL'; injection eL' with eL'; subst eL'; have e3 := cl' 3 _ rfl; have f3 := fl' 3; clear hc hk cl' fl')
        all_goals
          obtain ⟨x, hx⟩ : ∃ x : Tm, x = ⟨T.list[0].seq, T.list[0].due, T.list[0].what, q13, T.list[0].armed⟩ := ⟨_, rfl⟩
          have S4 := Lib.hid (S3n.out.elem hn 3 (by decide) (.int .i64 q13) x (by rw [hx]; rfl))
          rw [show 0 * 5 + 3 = 3 from rfl] at S4
          obtain ⟨T2, hT2⟩ : ∃ T2 : Tms, T2 = ⟨T.heap, T.list.set 0 x, T.next⟩ := ⟨_, rfl⟩
          rw [← hT2] at S4
          have hn2 : 0 < T2.list.length := by rw [hT2, List.length_set]; exact hn
          have EL : Hid (T2.list.length ≤ 64) := by show _ ≤ _; rw [hT2, List.length_set]; exact TL.out
          have i2 : (0 : Int) < (T2.list.length : Int) := by omega
          go_upto_region 14 with fail
          obtain ⟨U, hU⟩ : ∃ U, U = w4.setCell ⟨bL, 3, none⟩ (.int .i64 q13) := ⟨_, rfl⟩
          rw [← hU] at S4 ⊢
          clear hU hx hT2 S3 S3n t1 t1n e3 f3 hn i1 TL
          have t1 := S4.out.box.cell 1
          go_upto_region 14 with fail
          go_region_with (go_at_call 50; refine (numS_any xs A c g 2 U.drew (S4.out.cur.kept ((Kept.refl 0 0 U).drew) (.inl (Nat.le_refl _))) (by omega) (by omega)).mono ?_; rintro e' w6 ⟨q14, rfl, -, hc, hk⟩; have S4n := Lib.hid (S4.out.draw hc ((Kept.refl _ _ _).drew.trans hk)); have t1n := S4n.out.box.cell 1; obtain ⟨bL', eL', cl', fl'⟩ := S4n.out.first hn2; injection eL' with eL'; injection eL' with eL'; subst eL'; have e2 := cl' 2 _ rfl; have f2 := fl' 2; clear hc hk cl' fl')
          all_goals
            obtain ⟨x2, hx2⟩ : ∃ x : Tm, x = ⟨T2.list[0].seq, T2.list[0].due, q14, T2.list[0].whom, T2.list[0].armed⟩ := ⟨_, rfl⟩
            have S6 := Lib.hid (S4n.out.elem hn2 2 (by decide) (.int .i64 q14) x2 (by rw [hx2]; rfl))
            rw [show 0 * 5 + 2 = 2 from rfl] at S6
            obtain ⟨T3, hT3⟩ : ∃ T3 : Tms, T3 = ⟨T2.heap, T2.list.set 0 x2, T2.next⟩ := ⟨_, rfl⟩
            rw [← hT3] at S6
            have EL3 : Hid (T3.list.length ≤ 64) := by show _ ≤ _; rw [hT3, List.length_set]; exact EL.out
            go_upto_region 15 with fail
            obtain ⟨U2, hU2⟩ : ∃ U2, U2 = w6.setCell ⟨bL, 2, none⟩ (.int .i64 q14) := ⟨_, rfl⟩
            rw [← hU2] at S6 ⊢
            clear hU2 hx2 hT3 S4 S4n t1 t1n e2 f2 hn2 i2
            have y0 := S6.out.box.cell 0
            have r0 := S6.out.res.cell 0
            have g0 := S6.out.res.frozen 0
            have y1 := S6.out.box.cell 1
            have r1 := S6.out.res.cell 1
            have g1 := S6.out.res.frozen 1
            have y2 := S6.out.box.cell 2
            have r2 := S6.out.res.cell 2
            have g2 := S6.out.res.frozen 2
            have FO := Lib.hid S6.out.out
            clear S6
            go_wp2_with fail
            exact bodyPost_ret (results_l4DrawAny _ _ w.heap.size _ _ _ rfl FO.out.1) rfl ⟨_, T3, rfl, FO.out.2.1, EL3.out, FO.out.2.2.1, FO.out.2.2.2⟩
      · have i1 : ¬ (0 : Int) < (T.list.length : Int) := by omega
        go_upto_region 15 with fail
        clear t1
        have y0 := S3.out.box.cell 0
        have r0 := S3.out.res.cell 0
        have g0 := S3.out.res.frozen 0
        have y1 := S3.out.box.cell 1
        have r1 := S3.out.res.cell 1
        have g1 := S3.out.res.frozen 1
        have y2 := S3.out.box.cell 2
        have r2 := S3.out.res.cell 2
        have g2 := S3.out.res.frozen 2
        have FO := Lib.hid S3.out.out
        clear S3
        go_wp2_with fail
        exact bodyPost_ret (results_l4DrawAny _ _ w.heap.size _ _ _ rfl FO.out.1) rfl ⟨_, T, rfl, FO.out.2.1, TL.out, FO.out.2.2.1, FO.out.2.2.2⟩
end Go.Proofs.Ytnphjohmkjoefaa
