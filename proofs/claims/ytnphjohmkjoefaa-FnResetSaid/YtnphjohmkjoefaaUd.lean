/- The draw of timers and a Seq: timers in new memory; condition: the code can be read and has at most 4096 bytes. -/
import Derived.Test.YtnphjohmkjoefaaUc
namespace Go.Proofs.Ytnphjohmkjoefaa
open Go.RowKit Go.Sort

theorem results_l4DrawSeq (tmps : Array Value) (w : World) (r : Nat) (v0 v1 v2 : Value) (q : Int) (hp : tmps[2]?.getD undef = .pointer (some ⟨r, 0, none⟩)) (hq : tmps[3]?.getD undef = .int .i64 q) (h : Blk w r 27 #[v0, v1, v2]) :
    (results Try.f13 tmps).run Try.prog w = .ok (.tuple #[.agg #[v0, v1, v2], .int .i64 q]) w := by
  have h0 := h.cell 0
  have h1 := h.cell 1
  have h2 := h.cell 2
  simp [results, Try.results13, hp, hq, go_sem, h0, h1, h2]
theorem TimSt.seqAt {w wr : World} {g c bt d1 d2 : Nat} {A D1 D2 : Option Addr} {xs : List Int} {T : Tms} (h : TimSt w wr g A c xs bt D1 d1 D2 d2 T) {k : Nat} (hk : k < T.list.length) : ∃ b, D2 = some ⟨b, 0, none⟩ ∧ wr.cell? ⟨b, k * 5, none⟩ = some (.int .i64 T.list[k].seq) ∧ b ≠ w.heap.size := by
  obtain ⟨_, _, e, _, ⟨E2, e2, f2, o⟩⟩ := h.own
  injection e with e
  injection e with e
  injection e with q1 e
  injection e with q2 e
  subst q1 q2
  injection f2 with f2 _ f2'
  subst f2 f2'
  rcases o.form with ⟨_, h0, _⟩ | ⟨b, h1, _⟩
  · exfalso; omega
  · subst h1
    obtain ⟨cs, hB⟩ := row_blk o.1 (b := b) rfl
    refine ⟨b, rfl, ?_, blk_ne hB h.res (by decide)⟩
    have := own_at (R := tmR) o.1 hk 0 (u := .int .i64 T.list[k].seq) rfl
    simpa [tmR_k] using this

set_option maxHeartbeats 16000000 in
set_option maxRecDepth 100000 in
theorem drawMSeq_any : DrawsSeq := by
  intro xs A c g w hc0
  have hg := hc0.lt
  obtain ⟨W, hW⟩ : ∃ W, W = w.alloc (.cells #[.slice none 0 0, .slice none 0 0, .int .i64 0] 27) := ⟨_, rfl⟩
  have kW : Kept 0 0 w W := by rw [hW]; exact Kept.alloc0 _ _
  have B0 : Hid (Blk W w.heap.size 27 #[.slice none 0 0, .slice none 0 0, .int .i64 0]) := by show Blk _ _ _ _; rw [hW]; exact Blk.new _ _ _
  have CM := Lib.hid (drawMAny_any xs A c g W (hc0.kept kW (.inl (Nat.le_refl _))))
  have K0 : Hid (Kept g (g + 1) w W) := kW.wide (.inl (Nat.le_refl _))
  have zW : w.heap.size + 1 ≤ W.heap.size := by rw [hW]; simp
  have HW := Lib.hid hW
  clear hc0 kW hW
  go_enter Try.func13, Try.ntmps13
  go_wp2_with fail
  rw [← HW.out]
  clear HW
  with_reducible refine CM.out.mono ?_
  rintro e w1 ⟨_, T, rfl, ⟨_, _, rfl, ⟨D1, d1, rfl, oa⟩, ⟨D2, d2, rfl, ob⟩⟩, tl, hc, hk⟩
  obtain ⟨V, hV⟩ : ∃ V, V = w1.alloc (.cells #[.slice D1 T.heap.length d1, .slice D2 T.list.length d2, .int .i64 T.next] 27) := ⟨_, rfl⟩
  have z1 := hk.size
  have S1 : Hid (TimSt w V g A c xs w1.heap.size D1 d1 D2 d2 T) := by
    rw [hV]
    refine ⟨hc.kept (Kept.alloc0 _ _) (.inl (Nat.le_refl _)), (B0.out.kept hk (by omega)).alloc _, Blk.new _ _ _, ?_, (K0.out.trans hk).alloc _, hg, by omega⟩
    exact (OwnM.kept (⟨_, _, rfl, ⟨D1, d1, rfl, oa⟩, ⟨D2, d2, rfl, ob⟩⟩ : OwnM w1 W.heap.size w1.heap.size (.agg #[.slice D1 T.heap.length d1, .slice D2 T.list.length d2, .int .i64 T.next]) T) (Kept.alloc0 _ _) (.inl (Nat.le_refl _))).wide (by omega) (by simp)
  have HV := Lib.hid hV
  have TL := Lib.hid tl
  obtain ⟨bt, hbt⟩ : ∃ bt, bt = w1.heap.size := ⟨_, rfl⟩
  rw [← hbt] at S1
  clear hc hk hV B0 K0 z1 oa ob CM
  go_upto_region 2 with fail
  rw [← HV.out, ← hbt]
  clear HV hbt
  have bw := S1.out.hbt
  have TM_ : Hid (T.list.length ≤ 1048576) := by show _ ≤ _; omega
  have t1 := S1.out.box.cell 1
  by_cases hn : 0 < T.list.length
  · have i1 : (0 : Int) < (T.list.length : Int) := by omega
    go_wp2_with fail
    with_reducible refine (once_any _ _ _ _ _ _ S1.out.cur (by omega) (by omega)).mono ?_
    rintro e w2 ⟨b, rfl, hc, hk⟩
    have S2 := Lib.hid (S1.out.draw hc hk)
    clear hc hk S1 t1
    cases b with
    | true =>
      have y0 := S2.out.box.cell 0
      have r0 := S2.out.res.cell 0
      have g0 := S2.out.res.frozen 0
      have y1 := S2.out.box.cell 1
      have r1 := S2.out.res.cell 1
      have g1 := S2.out.res.frozen 1
      have y2 := S2.out.box.cell 2
      have r2 := S2.out.res.cell 2
      have g2 := S2.out.res.frozen 2
      go_upto_region 4 with fail
      go_region_with (go_at_call 30; refine (from_any xs A c g (-1) 9 w2.drew (S2.out.cur.kept ((Kept.refl 0 0 w2).drew) (.inl (Nat.le_refl _))) (by omega) (by omega) (by omega) (by omega)).mono ?_; rintro e' w9 ⟨q9, rfl, -, hc, hk⟩; have S9 := Lib.hid (S2.out.draw hc ((Kept.refl _ _ _).drew.trans hk)); have yy0 := S9.out.box.cell 0; have yy1 := S9.out.box.cell 1; have yy2 := S9.out.box.cell 2; have rr0 := S9.out.res.cell 0; have rr1 := S9.out.res.cell 1; have rr2 := S9.out.res.cell 2; have gg0 := S9.out.res.frozen 0; have gg1 := S9.out.res.frozen 1; have gg2 := S9.out.res.frozen 2; clear hc hk)
      all_goals
        have FO := Lib.hid S9.out.out
        go_wp2_with fail
        exact bodyPost_ret (results_l4DrawSeq _ _ w.heap.size _ _ _ q9 rfl rfl FO.out.1) rfl ⟨_, T, q9, rfl, FO.out.2.1, TM_.out, FO.out.2.2.1, FO.out.2.2.2⟩
    | false =>
      obtain ⟨bL, rfl, -, nb⟩ := S2.out.seqAt (k := 0) hn
      have nb2 : w.heap.size ≠ bL := fun e => nb e.symm
      have nb3 : bt ≠ w.heap.size := by omega
      have nb4 : w.heap.size ≠ bt := by omega
      have y0 := S2.out.box.cell 0
      have r0 := S2.out.res.cell 0
      have g0 := S2.out.res.frozen 0
      have y1 := S2.out.box.cell 1
      have r1 := S2.out.res.cell 1
      have g1 := S2.out.res.frozen 1
      have y2 := S2.out.box.cell 2
      have r2 := S2.out.res.cell 2
      have g2 := S2.out.res.frozen 2
      have tl2 : (T.list.length : Int) ≤ 256 := by omega
      go_upto_region 3 with fail
      go_region_with (go_at_call 16; refine (below_any xs A c g T.list.length w2.drew (S2.out.cur.kept ((Kept.refl 0 0 w2).drew) (.inl (Nat.le_refl _))) (by omega) (by omega)).mono ?_; rintro e' w9 ⟨q9, rfl, ⟨hq0, hq1⟩, hc, hk⟩; have S9 := Lib.hid (S2.out.draw hc ((Kept.refl _ _ _).drew.trans hk)); obtain ⟨k, rfl⟩ := Int.eq_ofNat_of_zero_le hq0; have hkl : k < T.list.length := (by omega); obtain ⟨bL', eL', cs, -⟩ := S9.out.seqAt hkl; injection eL' with eL'; injection eL' with eL'; subst eL'; have kl2 : (k : Int) < (T.list.length : Int) := (by omega); have yy0 := S9.out.box.cell 0; have yy1 := S9.out.box.cell 1; have yy2 := S9.out.box.cell 2; have rr0 := S9.out.res.cell 0; have rr1 := S9.out.res.cell 1; have rr2 := S9.out.res.cell 2; have gg0 := S9.out.res.frozen 0; have gg1 := S9.out.res.frozen 1; have gg2 := S9.out.res.frozen 2; clear hc hk)
      all_goals
        have FO := Lib.hid S9.out.out
        go_wp2_with fail
        exact bodyPost_ret (results_l4DrawSeq _ _ w.heap.size _ _ _ T.list[k].seq rfl rfl FO.out.1) rfl ⟨_, T, _, rfl, FO.out.2.1, TM_.out, FO.out.2.2.1, FO.out.2.2.2⟩
  · have i1 : ¬ (0 : Int) < (T.list.length : Int) := by omega
    clear t1
    have y0 := S1.out.box.cell 0
    have r0 := S1.out.res.cell 0
    have g0 := S1.out.res.frozen 0
    have y1 := S1.out.box.cell 1
    have r1 := S1.out.res.cell 1
    have g1 := S1.out.res.frozen 1
    have y2 := S1.out.box.cell 2
    have r2 := S1.out.res.cell 2
    have g2 := S1.out.res.frozen 2
    go_upto_region 4 with fail
    go_region_with (go_at_call 30; refine (from_any xs A c g (-1) 9 V.drew (S1.out.cur.kept ((Kept.refl 0 0 V).drew) (.inl (Nat.le_refl _))) (by omega) (by omega) (by omega) (by omega)).mono ?_; rintro e' w9 ⟨q9, rfl, -, hc, hk⟩; have S9 := Lib.hid (S1.out.draw hc ((Kept.refl _ _ _).drew.trans hk)); have yy0 := S9.out.box.cell 0; have yy1 := S9.out.box.cell 1; have yy2 := S9.out.box.cell 2; have rr0 := S9.out.res.cell 0; have rr1 := S9.out.res.cell 1; have rr2 := S9.out.res.cell 2; have gg0 := S9.out.res.frozen 0; have gg1 := S9.out.res.frozen 1; have gg2 := S9.out.res.frozen 2; clear hc hk)
    all_goals
      have FO := Lib.hid S9.out.out
      go_wp2_with fail
      exact bodyPost_ret (results_l4DrawSeq _ _ w.heap.size _ _ _ q9 rfl rfl FO.out.1) rfl ⟨_, T, q9, rfl, FO.out.2.1, TM_.out, FO.out.2.2.1, FO.out.2.2.2⟩
end Go.Proofs.Ytnphjohmkjoefaa
