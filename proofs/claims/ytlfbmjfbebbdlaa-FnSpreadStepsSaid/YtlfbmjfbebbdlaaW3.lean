/- The draw of a spread of a tree: it returns a valid spread in new memory and turns nothing old but the cursor; condition: a tree of at least one node, of the call's own, and a cursor. -/
import Derived.Test.YtlfbmjfbebbdlaaWf
import Derived.Test.YtlfbmjfbebbdlaaDf
namespace Go.Proofs.Ytlfbmjfbebbdlaa
open Go.RowKit Go.Sort

/-- The state of a draw of a spread under way. -/
structure St7 (w wr : World) (g : Nat) (A : Option Addr) (c : Nat) (xs : List Int) (lo hi : Nat) (v : Value) (t : List Nd) (b : Nat) (s : Spr) : Prop where
  ok : SprP t s
  box : ∃ D1 d1 D2 d2, Blk wr b 31 #[.slice D1 s.told.length d1, .slice D2 s.work.length d2] ∧ OwnS wr w.heap.size wr.heap.size (.agg #[.slice D1 s.told.length d1, .slice D2 s.work.length d2]) s
  res : Blk wr w.heap.size 31 #[.slice none 0 0, .slice none 0 0]
  tree : OwnNd wr lo hi v t
  cur : Cur wr g A c xs
  kept : Kept g (g + 1) w wr
section
variable {w wr wr' F : World} {g c lo hi b : Nat} {A : Option Addr} {xs : List Int} {v : Value} {t : List Nd} {s s' : Spr}
theorem St7.draw (h : St7 w wr g A c xs lo hi v t b s) (hg : g < w.heap.size) (hgl : g < lo) (hb : w.heap.size < b) (hc : Cur wr' g A c xs) (hk : Kept g (g + 1) wr wr') : St7 w wr' g A c xs lo hi v t b s := by
  obtain ⟨D1, d1, D2, d2, h1, h2⟩ := h.box
  have hs := hk.size
  exact ⟨h.ok, ⟨D1, d1, D2, d2, h1.kept hk (by omega), (h2.kept hk (by omega)).wide (Nat.le_refl _) hs⟩, h.res.kept hk (by omega), h.tree.kept hk (by omega), hc, h.kept.trans hk⟩
theorem St7.put {D1 D2 : Option Addr} {d1 d2 : Nat} (h : St7 w wr g A c xs lo hi v t b s) (hg : g < w.heap.size) (hb : w.heap.size < b) (hhb : hi ≤ b) (hk : Kept 0 0 wr wr') (hp : SprP t s')
    (ho : OwnS wr' wr.heap.size wr'.heap.size (.agg #[.slice D1 s'.told.length d1, .slice D2 s'.work.length d2]) s') (hF : F = (wr'.setCell ⟨b, 0, none⟩ (.slice D1 s'.told.length d1)).setCell ⟨b, 1, none⟩ (.slice D2 s'.work.length d2)) : St7 w F g A c xs lo hi v t b s' := by
  obtain ⟨E1, e1, E2, e2, h1, _⟩ := h.box
  have hb' := h1.kept hk (.inl (Nat.le_refl _))
  have hbl := h1.lt
  have kx := kept_set2 wr' b (.slice D1 s'.told.length d1) (.slice D2 s'.work.length d2)
  rw [← hF] at kx
  have z1 := h.kept.size
  have z2 := hk.size
  have z3 := kx.size
  refine ⟨hp, ⟨D1, d1, D2, d2, by rw [hF]; exact blk_set2 hb' _ _, (ho.kept kx (.inr (.inr (by omega)))).wide z1 z3⟩, (h.res.kept hk (.inl (Nat.le_refl _))).kept kx (by omega), (h.tree.kept hk (.inl (Nat.le_refl _))).kept kx (by omega), (h.cur.kept hk (.inl (Nat.le_refl _))).kept kx (.inr (by omega)), (h.kept.trans (hk.wide (.inl (Nat.le_refl _)))).trans2 kx (.inr (by omega))⟩
end
theorem St7.fin {w wr X : World} {g c lo hi b : Nat} {A : Option Addr} {xs : List Int} {v : Value} {t : List Nd} {s : Spr} {D1 D2 : Option Addr} {d1 d2 : Nat} (h : St7 w wr g A c xs lo hi v t b s) (hg : g < w.heap.size)
    (ho : OwnS wr w.heap.size wr.heap.size (.agg #[.slice D1 s.told.length d1, .slice D2 s.work.length d2]) s) (hX : X = (wr.setCell ⟨w.heap.size, 0, none⟩ (.slice D1 s.told.length d1)).setCell ⟨w.heap.size, 1, none⟩ (.slice D2 s.work.length d2)) :
    Blk X w.heap.size 31 #[.slice D1 s.told.length d1, .slice D2 s.work.length d2] ∧ OwnS X w.heap.size X.heap.size (.agg #[.slice D1 s.told.length d1, .slice D2 s.work.length d2]) s ∧ Cur X g A c xs ∧ Kept g (g + 1) w X := by
  have kx := kept_set2 wr w.heap.size (.slice D1 s.told.length d1) (.slice D2 s.work.length d2)
  rw [← hX] at kx
  have zx := kx.size
  obtain ⟨_, _, e, ⟨E1, x1, e1, o1⟩, ⟨E2, x2, e2, o2⟩⟩ := ho
  injection e with e
  injection e with e
  injection e with ea e
  injection e with eb
  rw [← ea] at e1
  rw [← eb] at e2
  injection e1 with f1 _ f2
  injection e2 with f3 _ f4
  subst f1 f2 f3 f4
  exact ⟨by rw [hX]; exact blk_set2 h.res _ _, ⟨_, _, rfl, ⟨_, _, rfl, (o1.off h.res (by decide) kx).wide (Nat.le_refl _) zx⟩, ⟨_, _, rfl, (o2.off h.res (by decide) kx).wide (Nat.le_refl _) zx⟩⟩, h.cur.kept kx (.inr (by omega)), h.kept.trans2 kx (.inr (Nat.le_refl _))⟩
theorem results_draw7 (tmps : Array Value) (w : World) (r : Nat) (v0 v1 : Value) (hp : tmps[4]?.getD undef = .pointer (some ⟨r, 0, none⟩)) (h : Blk w r 31 #[v0, v1]) :
    (results Try.f69 tmps).run Try.prog w = .ok (.agg #[v0, v1]) w := by
  have h0 := bs0 h
  have h1 := bs1 h
  simp [results, Try.results69, hp, go_sem, h0, h1]
theorem flatB_zero (n : Nat) : List.replicate n (Value.bool false) = bR.flat (List.replicate n false) := by rw [bR_flat, List.map_replicate]
theorem begunS_ok {t : List Nd} {s : Spr} (o : SprP t s) (n : Int) : SprP t (begunS t s n) := by
  cases h : inB t n && decide (s.work.length ≠ 240)
  · rw [(begun_out (spreadB_true.2 o) h).2]; exact o
  · rw [(begun_in (spreadB_true.2 o) h).2]
    simp only [Bool.and_eq_true, decide_eq_true_eq] at h
    have hn := inB_true.1 h.1
    have hc := o.cap
    refine ⟨o.tree, o.told, by simp; omega, fun i hi => ?_⟩
    have hm := List.getElem_mem hi
    rcases List.mem_append.1 hm with hm | hm
    · obtain ⟨j, hj, e⟩ := List.getElem_of_mem hm
      rw [← e]; exact o.work j hj
    · rw [List.mem_singleton.1 hm]; exact hn
theorem stepS_ok {t : List Nd} {s : Spr} (o : SprP t s) : SprP t (stepS t s) := by
  have e : stepS t s = (stepP t s).1 := by simp [stepS, spreadB_true.2 o]
  rw [e]; exact o.step
theorem RdS.agg {w : World} {B : Nat} {D1 D2 : Option Addr} {d1 d2 : Nat} {s : Spr} (h : OwnS w B w.heap.size (.agg #[.slice D1 s.told.length d1, .slice D2 s.work.length d2]) s) : RdS w w.heap.size (.agg #[.slice D1 s.told.length d1, .slice D2 s.work.length d2]) s := h.rdW (Nat.le_refl _)

set_option maxHeartbeats 12800000 in
set_option maxRecDepth 100000 in
theorem draw7_any (xs : List Int) (A : Option Addr) (c g lo hi : Nat) (D : Option Addr) (d : Nat) (t : List Nd) (w : World) (h : Cur w g A c xs) (ht : OwnNd w lo hi (.slice D t.length d) t) (hgl : g < lo) (hh : hi ≤ w.heap.size) (o : TreeP t) (hp : 1 ≤ t.length) :
    Calls Try.prog 69 #[.pointer (some ⟨g, 0, none⟩), .slice D t.length d] w fun e w' => ∃ (s : Spr) (z : Value), e = .returned z ∧ SprP t s ∧ OwnS w' w.heap.size w'.heap.size z s ∧ Cur w' g A c xs ∧ Kept g (g + 1) w w' := by
  obtain ⟨i0, hi0, hz0, hz1, hz2⟩ := info_parts Try.infoB
  have hg := h.lt
  have l60 := o.len
  have OT := Lib.hid o
  have H := Lib.hid h
  have HT := Lib.hid ht
  clear h ht o
  obtain ⟨W, hW⟩ : ∃ W, W = w.alloc (.cells #[.slice none 0 0, .slice none 0 0] 31) := ⟨_, rfl⟩
  have KW : Hid (Kept 0 0 w W) := by show Kept _ _ _ _; rw [hW]; exact Kept.alloc0 _ _
  have RW : Hid (Blk W w.heap.size 31 #[.slice none 0 0, .slice none 0 0]) := by show Blk _ _ _ _; rw [hW]; exact Blk.new _ _ _
  have zW : w.heap.size < W.heap.size := by rw [hW]; simp
  have HW := Lib.hid hW
  clear hW
  go_enter Try.func69, Try.ntmps69
  go_upto_region 1 with fail
  rw [← HW.out]
  go_upto_region 2 with (refine wpList_make_full _ rfl _ _ 28 rfl W.heap.size 4 i0 (.bool false) 1 Try.underlying28 hi0 hz0 hz1 _ _ _ _ t.length rfl rfl rfl rfl (by rw [hz2]; omega) (by unfold maxLen; omega) (Nat.le_refl _) ?_; intro w1 hown hgr)
  have OB : OwnZ w1 W.heap.size w1.heap.size 4 1 (some ⟨W.heap.size, 0, none⟩) t.length t.length (bR.flat (List.replicate t.length false)) := OwnZ.of_row (by have h := hown; simp only [Value.cells, toList_madeCells_one] at h; rw [flatB_zero] at h; simpa using h)
  have K1 : Hid (Kept 0 0 w w1) := KW.out.trans (Kept.of_grown (lo := 0) (hi := 0) hgr (by intro k hk; cases hk))
  have k1 : Kept 0 0 W w1 := Kept.of_grown (lo := 0) (hi := 0) hgr (by intro k hk; cases hk)
  have z1 := k1.size
  obtain ⟨b, hb'⟩ : ∃ b, b = w1.heap.size := ⟨_, rfl⟩
  obtain ⟨V, hV⟩ : ∃ V, V = w1.alloc (.cells #[.slice (some ⟨W.heap.size, 0, none⟩) t.length t.length, .slice none 0 0] 31) := ⟨_, rfl⟩
  have kV : Kept 0 0 w1 V := by rw [hV]; exact Kept.alloc0 _ _
  have zV := kV.size
  have S0 : Hid (St7 w V g A c xs lo hi (.slice D t.length d) t b ⟨List.replicate t.length false, []⟩) := by
    refine ⟨⟨OT.out, by simp, by simp, fun i h => by simp at h⟩, ⟨some ⟨W.heap.size, 0, none⟩, t.length, none, 0, ?_, ?_⟩, ?_, ?_, ?_, ?_⟩
    · show Blk V b _ #[.slice _ (List.replicate t.length false).length _, .slice none 0 0]
      rw [List.length_replicate, hV, hb']; exact Blk.new _ _ _
    · refine ⟨_, _, rfl, ⟨some ⟨W.heap.size, 0, none⟩, t.length, rfl, ?_⟩, OwnI.nil _ _ _⟩
      show OwnZ V _ _ _ 1 _ (List.replicate t.length false).length _ _
      rw [List.length_replicate]
      exact (OB.kept kV (.inl (Nat.le_refl _))).wide (Nat.le_of_lt zW) zV
    · exact RW.out.kept (k1.trans kV) (.inl (Nat.le_refl _))
    · exact HT.out.kept (K1.out.trans kV) (.inl (Nat.le_refl _))
    · exact H.out.kept (K1.out.trans kV) (.inl (Nat.le_refl _))
    · exact (K1.out.trans kV).wide (.inl (Nat.le_refl _))
  have hb : w.heap.size < b := by omega
  have hhb : hi ≤ b := by omega
  have HV := Lib.hid hV
  have HB := Lib.hid hb'
  rw [← hV, ← hb']
  clear hV hb' kV k1 OB hown hgr K1 KW RW HW H HT hi0 hz0 hz1 hz2 HV HB
  go_upto_region 2 with fail
  go_wp2_with fail
  with_reducible refine (below_any _ _ _ _ _ _ S0.out.cur (by omega) (by omega)).mono ?_
  rintro e w2 ⟨n, rfl, ⟨hn0, hn1⟩, hc, hk⟩
  have S1 := Lib.hid (S0.out.draw hg hgl hb hc hk)
  clear hc hk S0
  obtain ⟨n, rfl⟩ := Int.eq_ofNat_of_zero_le hn0
  go_wp2_with fail
  go_loopw [6] (fun i wr => ∃ (m : Nat) (s : Spr), i = .int .i64 m ∧ m ≤ 300 ∧ Hid (St7 w wr g A c xs lo hi (.slice D t.length d) t b s)) (fun i _ => (intOf i).toNat)
  case atStart => exact ⟨n, _, rfl, by omega, S1⟩
  case round =>
    clear S1
    obtain ⟨m, s, rfl, hm, ST⟩ := hrel
    by_cases hm0 : 0 < m
    · have i1 : (0 : Int) < (m : Int) := by omega
      have g1 : decide (0 < m) = true := by simpa using hm0
      obtain ⟨E1, e1, E2, e2, hbx, hsx⟩ := ST.out.box
      have sw := ST.out.ok.cap
      have b0 := bs0 hbx
      have b1 := bs1 hbx
      have f0 := hbx.frozen 0
      have f1 := hbx.frozen 1
      have HBX := Lib.hid hbx
      have HSX := Lib.hid hsx
      clear hbx hsx
      have CB := Lib.hid (below_any xs A c g (t.length : Int) wr.drew (ST.out.cur.kept (Kept.refl 0 0 wr).drew (.inl (Nat.le_refl _))) (by omega) (by omega))
      go_upto_region 5 with fail
      go_region_law (first
        | (go_simp; go_at_call 62; (with_reducible refine CB.out.mono ?_); rintro e w4 ⟨n, rfl, -, hc, hk⟩; have k4 := Lib.hid ((Kept.refl g (g + 1) wr).drew.trans hk); have S4 := Lib.hid (ST.out.draw hg hgl hb hc k4.out); have hb4 := HBX.out.kept k4.out (by omega); have hs4 := Lib.hid (HSX.out.kept k4.out (by omega)); have b40 := bs0 hb4; have b41 := bs1 hb4; clear hc hk hb4)
        | (go_simp; go_at_call 27; (with_reducible refine (beg7_any t s n _ _ w4 (S4.out.tree.rdW (by have := k4.out.size; have := ST.out.kept.size; omega)) (hs4.out.rdW k4.out.size)).mono ?_); rintro e w5 ⟨_, rfl, ⟨_, _, rfl, ⟨DA, dA, rfl, oa⟩, ⟨DB, dB, rfl, ob⟩⟩, hk⟩; have HO : Hid (OwnS w5 w4.heap.size w5.heap.size (.agg #[.slice DA (begunS t s n).told.length dA, .slice DB (begunS t s n).work.length dB]) (begunS t s n)) := ⟨_, _, rfl, ⟨DA, dA, rfl, oa⟩, ⟨DB, dB, rfl, ob⟩⟩; have k5 := Lib.hid hk; have hb5 := (HBX.out.kept k4.out (by omega)).kept hk (.inl (Nat.le_refl _)); have b50 := bs0 hb5; have b51 := bs1 hb5; have f50 := hb5.frozen 0; have f51 := hb5.frozen 1; clear hk oa ob hb5))
      all_goals
        obtain ⟨F, hF⟩ : ∃ F, F = (w5.setCell ⟨b, 0, none⟩ (.slice DA (begunS t s n).told.length dA)).setCell ⟨b, 1, none⟩ (.slice DB (begunS t s n).work.length dB) := ⟨_, rfl⟩
        have SF := Lib.hid (S4.out.put hg hb hhb k5.out (begunS_ok S4.out.ok n) HO.out hF)
        rw [← hF]
        clear hF b0 b1 f0 f1 b40 b41 b50 b51 f50 f51 HO k4 k5 S4 hs4 ST HBX HSX CB
        go_wp2_with fail
        go_roundw
        case rel => exact ⟨m - 1, _, by rw [show ((m - 1 : Nat) : Int) = (m : Int) - 1 from by omega], by omega, SF⟩
        case measure => simp [intOf]; omega
    · have g1 : decide (0 < m) = false := by simpa using hm0
      have i1 : ¬ (0 : Int) < (m : Int) := by omega
      go_upto_region 6 with fail
      go_wp2_with fail
      with_reducible refine (below_any _ _ _ _ _ _ ST.out.cur (by omega) (by omega)).mono ?_
      rintro e w3 ⟨n3, rfl, ⟨hn0', hn1'⟩, hc, hk⟩
      have S3 := Lib.hid (ST.out.draw hg hgl hb hc hk)
      clear hc hk ST
      obtain ⟨n3, rfl⟩ := Int.eq_ofNat_of_zero_le hn0'
      go_wp2_with fail
      go_loopw [7] (fun i wr => ∃ (m : Nat) (s : Spr), i = .int .i64 m ∧ m ≤ 300 ∧ Hid (St7 w wr g A c xs lo hi (.slice D t.length d) t b s)) (fun i _ => (intOf i).toNat)
      case atStart => exact ⟨n3, s, rfl, by omega, S3⟩
      case round =>
        clear S3
        obtain ⟨m2, s2, rfl, hm2, ST⟩ := hrel
        by_cases hm0' : 0 < m2
        · have i2 : (0 : Int) < (m2 : Int) := by omega
          have g2 : decide (0 < m2) = true := by simpa using hm0'
          obtain ⟨E1, e1, E2, e2, hbx, hsx⟩ := ST.out.box
          have sw := ST.out.ok.cap
          have HBX := Lib.hid hbx
          have zr := ST.out.kept.size
          have b0 := bs0 hbx
          have b1 := bs1 hbx
          have CS := Lib.hid (step7_any t s2 (.slice D t.length d) (.agg #[.slice E1 s2.told.length e1, .slice E2 s2.work.length e2]) wr (ST.out.tree.rdW (by omega)) (hsx.rdW (Nat.le_refl _)))
          clear hbx hsx
          go_wp2_with fail
          with_reducible refine CS.out.mono ?_
          rintro e w5 ⟨_, rfl, ⟨_, _, rfl, ⟨DA, dA, rfl, oa⟩, ⟨DB, dB, rfl, ob⟩⟩, hk⟩
          have HO : Hid (OwnS w5 wr.heap.size w5.heap.size (.agg #[.slice DA (stepS t s2).told.length dA, .slice DB (stepS t s2).work.length dB]) (stepS t s2)) := ⟨_, _, rfl, ⟨DA, dA, rfl, oa⟩, ⟨DB, dB, rfl, ob⟩⟩
          have hb5 := HBX.out.kept hk (.inl (Nat.le_refl _))
          have K5 := Lib.hid hk
          have b50 := bs0 hb5
          have b51 := bs1 hb5
          have f50 := hb5.frozen 0
          have f51 := hb5.frozen 1
          obtain ⟨F, hF⟩ : ∃ F, F = (w5.setCell ⟨b, 0, none⟩ (.slice DA (stepS t s2).told.length dA)).setCell ⟨b, 1, none⟩ (.slice DB (stepS t s2).work.length dB) := ⟨_, rfl⟩
          have SF := Lib.hid (ST.out.put hg hb hhb K5.out (stepS_ok ST.out.ok) HO.out hF)
          have HF := Lib.hid hF
          clear hk oa ob hb5 b0 b1 HBX CS hF
          go_upto_region 8 with fail
          rw [← HF.out]
          clear b50 b51 f50 f51 HF
          go_wp2_with fail
          go_roundw
          case rel => exact ⟨m2 - 1, _, by rw [show ((m2 - 1 : Nat) : Int) = (m2 : Int) - 1 from by omega], by omega, SF⟩
          case measure => simp [intOf]; omega
        · have g2 : decide (0 < m2) = false := by simpa using hm0'
          have i2 : ¬ (0 : Int) < (m2 : Int) := by omega
          go_upto_region 10 with fail
          go_wp2_with fail
          with_reducible refine (once_any _ _ _ _ _ _ ST.out.cur (by omega) (by omega)).mono ?_
          rintro e w4 ⟨bo, rfl, hc, hk⟩
          have S4 := Lib.hid (ST.out.draw hg hgl hb hc hk)
          clear hc hk ST
          cases bo with
          | false =>
            have ST := S4
            clear S4
            go_upto_region 15 with fail
            obtain ⟨E1, e1, E2, e2, hbx, hsx⟩ := ST.out.box
            have b0 := bs0 hbx
            have b1 := bs1 hbx
            have r0 := bs0 ST.out.res
            have r1 := bs1 ST.out.res
            have f0 := ST.out.res.frozen 0
            have f1 := ST.out.res.frozen 1
            have HSX := Lib.hid hsx
            clear hbx hsx
            go_wp2_with fail
            obtain ⟨R, hO, hC, hK⟩ := ST.out.fin hg HSX.out rfl
            exact bodyPost_ret (results_draw7 _ _ w.heap.size _ _ rfl R) rfl ⟨s2, _, rfl, ST.out.ok, hO, hC, hK⟩
          | true =>
            obtain ⟨E1, e1, E2, e2, hbx, hsx⟩ := S4.out.box
            have sw := S4.out.ok.cap
            have HBX := Lib.hid hbx
            have b1 := bs1 hbx.drew
            have CB := Lib.hid (below_any xs A c g 3 w4.drew (S4.out.cur.kept (Kept.refl 0 0 w4).drew (.inl (Nat.le_refl _))) (by omega) (by omega))
            have wr1 : IntKind.i64.wrap (240 - (s2.work.length : Int)) = 240 - (s2.work.length : Int) := IntWalk.i64_in _ (by omega)
            clear hbx hsx
            go_upto_region 11 with fail
            go_region_held3 (fun w' => w'.cell? ⟨b, 1, none⟩ = some (.slice E2 s2.work.length e2))
              (with_reducible assumption)
              (first | (go_at_call 62; (with_reducible refine CB.out.mono ?_); rintro e w5 ⟨r, rfl, ⟨hr0, hr1⟩, hc, hk⟩; have k5 := Lib.hid ((Kept.refl g (g + 1) w4).drew.trans hk); have S5 := Lib.hid (S4.out.draw hg hgl hb hc k5.out); have b15 := bs1 (HBX.out.kept k5.out (by omega)); have wr2 : IntKind.i64.wrap (240 - (s2.work.length : Int) - r) = 240 - (s2.work.length : Int) - r := IntWalk.i64_in _ (by omega); clear hc hk))
            obtain ⟨m3, hm3⟩ : ∃ m3, m3 = 240 - (s2.work.length : Int) - r := ⟨_, rfl⟩
            have hm3a : -10 ≤ m3 := by omega
            have hm3b : m3 ≤ 300 := by omega
            go_upto_region 12 with fail
            rw [← hm3]
            clear b1 b15 wr1 wr2 hm3 CB k5 HBX S4
            go_loopw [8] (fun i wr => ∃ (m : Int) (s : Spr), i = .int .i64 m ∧ -10 ≤ m ∧ m ≤ 300 ∧ Hid (St7 w wr g A c xs lo hi (.slice D t.length d) t b s)) (fun i _ => (intOf i).toNat)
            case atStart => exact ⟨m3, s2, rfl, hm3a, hm3b, S5⟩
            case round =>
              clear S5 hm3a hm3b
              obtain ⟨m4, s, rfl, hm4, hm5, ST⟩ := hrel
              by_cases hm0' : 0 < m4
              · have g4 : decide (0 < m4) = true := by simpa using hm0'
                obtain ⟨E1, e1, E2, e2, hbx, hsx⟩ := ST.out.box
                have sw := ST.out.ok.cap
                have b0 := bs0 hbx
                have b1 := bs1 hbx
                have f0 := hbx.frozen 0
                have f1 := hbx.frozen 1
                have HBX := Lib.hid hbx
                have HSX := Lib.hid hsx
                clear hbx hsx
                have CB := Lib.hid (below_any xs A c g (t.length : Int) wr.drew (ST.out.cur.kept (Kept.refl 0 0 wr).drew (.inl (Nat.le_refl _))) (by omega) (by omega))
                go_upto_region 14 with fail
                go_region_law (first
                  | (go_simp; go_at_call 62; (with_reducible refine CB.out.mono ?_); rintro e w4 ⟨n, rfl, -, hc, hk⟩; have k4 := Lib.hid ((Kept.refl g (g + 1) wr).drew.trans hk); have S4 := Lib.hid (ST.out.draw hg hgl hb hc k4.out); have hb4 := HBX.out.kept k4.out (by omega); have hs4 := Lib.hid (HSX.out.kept k4.out (by omega)); have b40 := bs0 hb4; have b41 := bs1 hb4; clear hc hk hb4)
                  | (go_simp; go_at_call 27; (with_reducible refine (beg7_any t s n _ _ w4 (S4.out.tree.rdW (by have := k4.out.size; have := ST.out.kept.size; omega)) (hs4.out.rdW k4.out.size)).mono ?_); rintro e w5 ⟨_, rfl, ⟨_, _, rfl, ⟨DA, dA, rfl, oa⟩, ⟨DB, dB, rfl, ob⟩⟩, hk⟩; have HO : Hid (OwnS w5 w4.heap.size w5.heap.size (.agg #[.slice DA (begunS t s n).told.length dA, .slice DB (begunS t s n).work.length dB]) (begunS t s n)) := ⟨_, _, rfl, ⟨DA, dA, rfl, oa⟩, ⟨DB, dB, rfl, ob⟩⟩; have k5 := Lib.hid hk; have hb5 := (HBX.out.kept k4.out (by omega)).kept hk (.inl (Nat.le_refl _)); have b50 := bs0 hb5; have b51 := bs1 hb5; have f50 := hb5.frozen 0; have f51 := hb5.frozen 1; clear hk oa ob hb5))
                all_goals
                  obtain ⟨F, hF⟩ : ∃ F, F = (w5.setCell ⟨b, 0, none⟩ (.slice DA (begunS t s n).told.length dA)).setCell ⟨b, 1, none⟩ (.slice DB (begunS t s n).work.length dB) := ⟨_, rfl⟩
                  have SF := Lib.hid (S4.out.put hg hb hhb k5.out (begunS_ok S4.out.ok n) HO.out hF)
                  rw [← hF]
                  clear hF b0 b1 f0 f1 b40 b41 b50 b51 f50 f51 HO k4 k5 S4 hs4 ST HBX HSX CB
                  go_wp2_with fail
                  go_roundw
                  case rel => exact ⟨m4 - 1, _, rfl, by omega, by omega, SF⟩
                  case measure => simp [intOf]; omega

              · have g4 : decide (0 < m4) = false := by simpa using hm0'
                go_upto_region 15 with fail
                obtain ⟨E1, e1, E2, e2, hbx, hsx⟩ := ST.out.box
                have b0 := bs0 hbx
                have b1 := bs1 hbx
                have r0 := bs0 ST.out.res
                have r1 := bs1 ST.out.res
                have f0 := ST.out.res.frozen 0
                have f1 := ST.out.res.frozen 1
                have HSX := Lib.hid hsx
                clear hbx hsx
                go_wp2_with fail
                obtain ⟨R, hO, hC, hK⟩ := ST.out.fin hg HSX.out rfl
                exact bodyPost_ret (results_draw7 _ _ w.heap.size _ _ rfl R) rfl ⟨s, _, rfl, ST.out.ok, hO, hC, hK⟩

end Go.Proofs.Ytlfbmjfbebbdlaa
