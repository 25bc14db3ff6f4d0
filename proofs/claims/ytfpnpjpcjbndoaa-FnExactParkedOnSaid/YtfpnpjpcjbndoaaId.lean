/- The reference's Woken; no condition beyond that the slice can be read. -/
import Derived.Test.YtfpnpjpcjbndoaaIc
import Derived.Deep.RegionHeld3
namespace Go.Proofs.Ytfpnpjpcjbndoaa
open Go.RowKit Go.Sort

theorem Blk.noneZ {w : World} {g t : Nat} (h : Blk w g t #[]) (hi : Nat) (hg : g < hi) : OwnZ w g hi t 9 (some ⟨g, 0, none⟩) 0 0 [] := OwnZ.mk_ (own_emptyZ h (Nat.le_refl _)) hg
set_option maxHeartbeats 3200000 in
set_option maxRecDepth 100000 in
theorem woken11_any (l : List Tk) (y h r : Int) (v : Value) (w : World) (h0 : RdTk w w.heap.size v l) :
    Calls Try.prog 25 #[v, .int .i64 y, .int .i64 h, .int .i64 r] w fun e w' => ∃ u, e = .returned u ∧ OwnTk w' w.heap.size w'.heap.size u (wokenL l y h r) ∧ Kept 0 0 w w' := by
  have H := Lib.hid h0
  have CO := Lib.hid (tasks11_any l v w h0)
  obtain ⟨A, c, rfl, h1⟩ := h0
  have RL := Lib.hid h1.rd
  clear h1
  have HS := Lib.hid tkSlice
  cases q1 : tasksB l
  · have EL : Hid (wokenL l y h r = []) := by show _ = _; simp [wokenL, q1]
    rw [q1] at CO
    clear q1
    go_enter Try.func25, Try.ntmps25
    go_wp2_with fail
    with_reducible refine CO.out.mono ?_
    rintro e w1 ⟨rfl, hk⟩
    have K1 := Lib.hid hk
    clear hk CO
    go_wp2_with fail
    go_ret
    rw [EL.out]
    exact ⟨_, rfl, ⟨_, 0, rfl, OwnZ.mk_ (own_emptyZ (Blk.new w1 _ _) K1.out.size) (by simp)⟩, K1.out.alloc _⟩
  have L : l.length ≤ 60 := (tasksB_iff.1 q1).2
  have EL : Hid (wokenL l y h r = outW l r (parkedL l y h)) := by show _ = _; rw [show parkedL l y h = idxs (isPk y h) 0 l by simp [parkedL, q1], outW_all]; simp [wokenL, q1]
  have RG : Hid (∀ z ∈ parkedL l y h, 0 ≤ z ∧ z < l.length) := fun z hz => by rw [show parkedL l y h = idxs (isPk y h) 0 l by simp [parkedL, q1]] at hz; exact idx_range hz
  rw [q1] at CO
  clear q1
  go_enter Try.func25, Try.ntmps25
  go_wp2_with fail
  with_reducible refine CO.out.mono ?_
  rintro e w1 ⟨rfl, hk⟩
  have K1 := Lib.hid hk
  clear hk CO
  obtain ⟨V, hV⟩ : ∃ V, V = w1.alloc (.cells #[] 35) := ⟨_, rfl⟩
  have KV : Hid (Kept 0 0 w V) := by show Kept _ _ _ _; rw [hV]; exact K1.out.alloc _
  have BV : Hid (Blk V w1.heap.size 35 #[]) := by show Blk _ _ _ _; rw [hV]; exact Blk.new _ _ _
  have zV : w1.heap.size + 1 ≤ V.heap.size := by rw [hV]; simp
  have HV := Lib.hid hV
  have z1 := K1.out.size
  clear hV
  go_wp2_with (at_builtin; rw [← HV.out]; refine wpList_app (R := tkR) rfl (.tmp 16) (.tmp 17) rfl HS.out w.heap.size (some ⟨w1.heap.size, 0, none⟩) 0 [] rfl (own_emptyZ BV.out z1) w.heap.size A c l rfl (by obtain ⟨A', c', e', s'⟩ := H.out.kept (Nat.le_refl _) KV.out (.inl (Nat.le_refl _)); injection e' with e1 _ e2; subst e1 e2; exact s'.rd) (by simp [maxLen]; omega) (by simp; omega) KV.out.size ?_; intro D d w2 hown hgrow hat)
  have K2 := Lib.hid (KV.out.app hgrow (fun g hg => by have := (own_row_lo (own_emptyZ (size := 9) BV.out z1) g hg).1; omega))
  have O2 : Hid (OwnZ w2 w.heap.size w2.heap.size 35 9 D l.length d (tkR.flat l)) := by have := OwnZ.of_row hown; simp only [List.nil_append] at this; exact this
  clear hown hgrow hat HV BV KV
  have H2 := Lib.hid (H.out.up K2.out)
  have CP := Lib.hid (parked11_any l y h _ w2 H2.out)
  go_wp2_with fail
  with_reducible refine CP.out.mono ?_
  rintro e w3 ⟨_, rfl, ⟨E, f, rfl, ho⟩, hk⟩
  have K3 := Lib.hid (K2.out.trans hk)
  have O3 := Lib.hid (O2.out.kept hk (.inl (Nat.le_refl _)))
  have OW := Lib.hid ho
  have z2 := hk.size
  clear hk ho CP H2 O2
  obtain ⟨ws, hws⟩ : ∃ ws, ws = parkedL l y h := ⟨_, rfl⟩
  have WL : ws.length ≤ 60 := by rw [hws]; exact parkedL_len l y h
  rw [← hws] at EL RG OW ⊢
  clear hws
  have z3 := K2.out.size
  have O4 : Hid (OwnZ w3 w.heap.size w2.heap.size 35 9 D l.length d (tkR.flat (outW l r []))) := by rw [outW_nil]; exact O3.out
  go_wp2_with fail
  go_loopw [11] (fun i wr => ∃ k : Nat, k ≤ ws.length ∧ i = .int .i64 k ∧ Hid (OwnZ wr w.heap.size w2.heap.size 35 9 D l.length d (tkR.flat (outW l r (ws.take k)))) ∧ Hid (OwnZ wr w2.heap.size w3.heap.size 2 1 E ws.length f (iR.flat ws)) ∧ Hid (Kept 0 0 w wr) ∧ w3.heap.size ≤ wr.heap.size) (fun i _ => ws.length - (intOf i).toNat)
  case atStart => exact ⟨0, Nat.zero_le _, rfl, O4, OW, K3, Nat.le_refl _⟩
  case round =>
    clear O4 OW K3 O3
    obtain ⟨k, hk, rfl, HO, HW, HK, zr⟩ := hrel
    have z := HK.out.size
    by_cases hlt : k < ws.length
    · obtain ⟨n, hn, en⟩ : ∃ n : Nat, n < l.length ∧ ws[k] = (n : Int) := by
        have := RG.out _ (List.getElem_mem hlt)
        exact ⟨ws[k].toNat, by omega, by omega⟩
      obtain ⟨ai, rfl, _, ci⟩ := (OwnZ.rd (R := iR) HW.out).2.i hlt
      rw [en] at ci
      obtain ⟨A', c', e', s'⟩ := H.out.kept (Nat.le_refl _) HK.out (.inl (Nat.le_refl _))
      injection e' with e1 _ e2
      subst e1 e2
      obtain ⟨ad, rfl, _, c0, c1, c2, c3, c4, c5, c6, c7, c8⟩ := s'.rd.tk hn
      clear s'
      obtain ⟨t, ht⟩ : ∃ t, t = l[n] := ⟨_, rfl⟩
      rw [← ht] at c0 c1 c2 c3 c4 c5 c6 c7 c8
      have HT := Lib.hid ht
      clear ht
      have i1 : (k : Int) < (ws.length : Int) := by omega
      have i2 : (n : Int) < (l.length : Int) := by omega
      have i3 : 0 ≤ (n : Int) := by omega
      have EN := Lib.hid en
      have HN := Lib.hid hn
      clear en
      rcases HO.out.form with ⟨_, hz, _⟩ | ⟨g, rfl, hg1, hg2, hg3⟩
      · omega
      have SS : Hid (∀ w', Kept g (g + 1) wr w' → w'.cell? (ai.add k) = some (.int .i64 n) ∧ w'.cell? (ad.add (n * 9)) = some (.int .i64 t.prog) ∧ w'.cell? ⟨(ad.add (n * 9)).block, (ad.add (n * 9)).off + 1, none⟩ = some (.int .i64 t.pc) ∧ w'.cell? ⟨(ad.add (n * 9)).block, (ad.add (n * 9)).off + 2, none⟩ = some (.int .i64 t.st) ∧ w'.cell? ⟨(ad.add (n * 9)).block, (ad.add (n * 9)).off + 3, none⟩ = some (.int .i64 t.why) ∧ w'.cell? ⟨(ad.add (n * 9)).block, (ad.add (n * 9)).off + 4, none⟩ = some (.int .i64 t.what) ∧ w'.cell? ⟨(ad.add (n * 9)).block, (ad.add (n * 9)).off + 5, none⟩ = some (.int .i64 t.timer) ∧ w'.cell? ⟨(ad.add (n * 9)).block, (ad.add (n * 9)).off + 6, none⟩ = some (.int .i64 t.reg) ∧ w'.cell? ⟨(ad.add (n * 9)).block, (ad.add (n * 9)).off + 7, none⟩ = some (.int .i64 t.grp) ∧ w'.cell? ⟨(ad.add (n * 9)).block, (ad.add (n * 9)).off + 8, none⟩ = some (.int .i64 t.err)) := by
        intro w' kw
        obtain ⟨ai', e1, _, ci⟩ := (OwnZ.rd (R := iR) (HW.out.kept kw (by omega))).2.i hlt
        injection e1 with e1
        subst e1
        obtain ⟨ad', e2, _, c0, c1, c2, c3, c4, c5, c6, c7, c8⟩ := ((RL.out.kept (Nat.le_refl _) HK.out (.inl (Nat.le_refl _))).kept z kw (.inr hg1)).tk HN.out
        injection e2 with e2
        subst e2
        rw [← HT.out] at c0 c1 c2 c3 c4 c5 c6 c7 c8
        rw [EN.out] at ci
        exact ⟨ci, c0, c1, c2, c3, c4, c5, c6, c7, c8⟩
      obtain ⟨x, hx⟩ : ∃ x, x = readyT t r := ⟨_, rfl⟩
      have CR : Hid (∀ W, Calls Try.prog 39 #[.agg #[.int .i64 t.prog, .int .i64 t.pc, .int .i64 t.st, .int .i64 t.why, .int .i64 t.what, .int .i64 t.timer, .int .i64 t.reg, .int .i64 t.grp, .int .i64 t.err], .int .i64 r] W fun e w' => e = .returned (.agg #[.int .i64 x.prog, .int .i64 x.pc, .int .i64 x.st, .int .i64 x.why, .int .i64 x.what, .int .i64 x.timer, .int .i64 x.reg, .int .i64 x.grp, .int .i64 x.err]) ∧ Kept 0 0 W w') := by show ∀ W, _; rw [hx]; exact fun W => ready_any t r W
      have HX := Lib.hid hx
      obtain ⟨M, hM⟩ : ∃ M, M = outW l r (ws.take k) := ⟨_, rfl⟩
      have hpl : n < M.length := by rw [hM, outW_len]; exact HN.out
      have HM := Lib.hid hM
      have HP := Lib.hid hpl
      obtain ⟨m, hm⟩ : ∃ m, m = M[n] := ⟨_, rfl⟩
      have RO : Hid (wr.ownsRow w.heap.size 35 9 (.slice (some ⟨g, 0, none⟩) l.length d) l.length (tkR.flat M)) := by rw [hM]; exact HO.out.1
      have SO : Hid (∀ w', Kept 0 0 wr w' → w'.cell? ⟨g, n * 9, none⟩ = some (.int .i64 m.prog) ∧ w'.cell? ⟨g, n * 9 + 1, none⟩ = some (.int .i64 m.pc) ∧ w'.cell? ⟨g, n * 9 + 2, none⟩ = some (.int .i64 m.st) ∧ w'.cell? ⟨g, n * 9 + 3, none⟩ = some (.int .i64 m.why) ∧ w'.cell? ⟨g, n * 9 + 4, none⟩ = some (.int .i64 m.what) ∧ w'.cell? ⟨g, n * 9 + 5, none⟩ = some (.int .i64 m.timer) ∧ w'.cell? ⟨g, n * 9 + 6, none⟩ = some (.int .i64 m.reg) ∧ w'.cell? ⟨g, n * 9 + 7, none⟩ = some (.int .i64 m.grp) ∧ w'.cell? ⟨g, n * 9 + 8, none⟩ = some (.int .i64 m.err) ∧ w'.frozen? ⟨g, n * 9, none⟩ = false ∧ w'.frozen? ⟨g, n * 9 + 1, none⟩ = false ∧ w'.frozen? ⟨g, n * 9 + 2, none⟩ = false ∧ w'.frozen? ⟨g, n * 9 + 3, none⟩ = false ∧ w'.frozen? ⟨g, n * 9 + 4, none⟩ = false ∧ w'.frozen? ⟨g, n * 9 + 5, none⟩ = false ∧ w'.frozen? ⟨g, n * 9 + 6, none⟩ = false ∧ w'.frozen? ⟨g, n * 9 + 7, none⟩ = false ∧ w'.frozen? ⟨g, n * 9 + 8, none⟩ = false) := by
        intro w' kw
        have q := row_kept RO.out kw
        exact ⟨own_at (R := tkR) q hpl 0 (by rw [hm]; rfl), own_at (R := tkR) q hpl 1 (by rw [hm]; rfl), own_at (R := tkR) q hpl 2 (by rw [hm]; rfl), own_at (R := tkR) q hpl 3 (by rw [hm]; rfl), own_at (R := tkR) q hpl 4 (by rw [hm]; rfl), own_at (R := tkR) q hpl 5 (by rw [hm]; rfl), own_at (R := tkR) q hpl 6 (by rw [hm]; rfl), own_at (R := tkR) q hpl 7 (by rw [hm]; rfl), own_at (R := tkR) q hpl 8 (by rw [hm]; rfl), q.frozenAt _, q.frozenAt _, q.frozenAt _, q.frozenAt _, q.frozenAt _, q.frozenAt _, q.frozenAt _, q.frozenAt _, q.frozenAt _⟩
      have KZ : Hid (∀ W, Kept g (g + 1) wr W → Kept g (g + 1) wr (((((((((W.setCell ⟨g, n * 9, none⟩ (.int .i64 x.prog)).setCell ⟨g, n * 9 + 1, none⟩ (.int .i64 x.pc)).setCell ⟨g, n * 9 + 2, none⟩ (.int .i64 x.st)).setCell ⟨g, n * 9 + 3, none⟩ (.int .i64 x.why)).setCell ⟨g, n * 9 + 4, none⟩ (.int .i64 x.what)).setCell ⟨g, n * 9 + 5, none⟩ (.int .i64 x.timer)).setCell ⟨g, n * 9 + 6, none⟩ (.int .i64 x.reg)).setCell ⟨g, n * 9 + 7, none⟩ (.int .i64 x.grp)).setCell ⟨g, n * 9 + 8, none⟩ (.int .i64 x.err))) := fun W kW => (((((((((kW.setCell (.inr ⟨Nat.le_refl _, Nat.lt_succ_self _⟩) _).setCell (.inr ⟨Nat.le_refl _, Nat.lt_succ_self _⟩) _).setCell (.inr ⟨Nat.le_refl _, Nat.lt_succ_self _⟩) _).setCell (.inr ⟨Nat.le_refl _, Nat.lt_succ_self _⟩) _).setCell (.inr ⟨Nat.le_refl _, Nat.lt_succ_self _⟩) _).setCell (.inr ⟨Nat.le_refl _, Nat.lt_succ_self _⟩) _).setCell (.inr ⟨Nat.le_refl _, Nat.lt_succ_self _⟩) _).setCell (.inr ⟨Nat.le_refl _, Nat.lt_succ_self _⟩) _).setCell (.inr ⟨Nat.le_refl _, Nat.lt_succ_self _⟩) _)
      clear hx hM hpl hm ci c0 c1 c2 c3 c4 c5 c6 c7 c8
      go_upto_region 8 with fail
      go_region_held3 (fun w' => w'.cell? (ai.add k) = some (.int .i64 n) ∧ w'.cell? (ad.add (n * 9)) = some (.int .i64 t.prog) ∧ w'.cell? ⟨(ad.add (n * 9)).block, (ad.add (n * 9)).off + 1, none⟩ = some (.int .i64 t.pc) ∧ w'.cell? ⟨(ad.add (n * 9)).block, (ad.add (n * 9)).off + 2, none⟩ = some (.int .i64 t.st) ∧ w'.cell? ⟨(ad.add (n * 9)).block, (ad.add (n * 9)).off + 3, none⟩ = some (.int .i64 t.why) ∧ w'.cell? ⟨(ad.add (n * 9)).block, (ad.add (n * 9)).off + 4, none⟩ = some (.int .i64 t.what) ∧ w'.cell? ⟨(ad.add (n * 9)).block, (ad.add (n * 9)).off + 5, none⟩ = some (.int .i64 t.timer) ∧ w'.cell? ⟨(ad.add (n * 9)).block, (ad.add (n * 9)).off + 6, none⟩ = some (.int .i64 t.reg) ∧ w'.cell? ⟨(ad.add (n * 9)).block, (ad.add (n * 9)).off + 7, none⟩ = some (.int .i64 t.grp) ∧ w'.cell? ⟨(ad.add (n * 9)).block, (ad.add (n * 9)).off + 8, none⟩ = some (.int .i64 t.err))
        (first | with_reducible exact SS.out _ (Kept.refl g (g + 1) wr).drew | with_reducible exact SS.out _ kg | with_reducible exact SS.out _ kg.drew | with_reducible exact SS.out _ (KZ.out _ kg))
        (first | (go_at_call 39; (with_reducible refine (CR.out wr.drew).mono ?_); rintro e w5 ⟨rfl, hk⟩; have k5 : Kept 0 0 wr w5 := (Kept.refl 0 0 wr).drew.trans hk; have kg : Kept g (g + 1) wr w5 := k5.wide (.inl (Nat.le_refl _)); clear hk; obtain ⟨d0, d1, d2, d3, d4, d5, d6, d7, d8, f0, f1, f2, f3, f4, f5, f6, f7, f8⟩ := SO.out w5 k5) | fail)
      all_goals
        have KX : Hid (Kept g (g + 1) w5 (((((((((w5.setCell ⟨g, n * 9, none⟩ (.int .i64 x.prog)).setCell ⟨g, n * 9 + 1, none⟩ (.int .i64 x.pc)).setCell ⟨g, n * 9 + 2, none⟩ (.int .i64 x.st)).setCell ⟨g, n * 9 + 3, none⟩ (.int .i64 x.why)).setCell ⟨g, n * 9 + 4, none⟩ (.int .i64 x.what)).setCell ⟨g, n * 9 + 5, none⟩ (.int .i64 x.timer)).setCell ⟨g, n * 9 + 6, none⟩ (.int .i64 x.reg)).setCell ⟨g, n * 9 + 7, none⟩ (.int .i64 x.grp)).setCell ⟨g, n * 9 + 8, none⟩ (.int .i64 x.err))) := ((((((((((Kept.refl g (g + 1) w5).setCell (.inr ⟨Nat.le_refl _, Nat.lt_succ_self _⟩) _).setCell (.inr ⟨Nat.le_refl _, Nat.lt_succ_self _⟩) _).setCell (.inr ⟨Nat.le_refl _, Nat.lt_succ_self _⟩) _).setCell (.inr ⟨Nat.le_refl _, Nat.lt_succ_self _⟩) _).setCell (.inr ⟨Nat.le_refl _, Nat.lt_succ_self _⟩) _).setCell (.inr ⟨Nat.le_refl _, Nat.lt_succ_self _⟩) _).setCell (.inr ⟨Nat.le_refl _, Nat.lt_succ_self _⟩) _).setCell (.inr ⟨Nat.le_refl _, Nat.lt_succ_self _⟩) _).setCell (.inr ⟨Nat.le_refl _, Nat.lt_succ_self _⟩) _)
        have RX : Hid (OwnZ (((((((((w5.setCell ⟨g, n * 9, none⟩ (.int .i64 x.prog)).setCell ⟨g, n * 9 + 1, none⟩ (.int .i64 x.pc)).setCell ⟨g, n * 9 + 2, none⟩ (.int .i64 x.st)).setCell ⟨g, n * 9 + 3, none⟩ (.int .i64 x.why)).setCell ⟨g, n * 9 + 4, none⟩ (.int .i64 x.what)).setCell ⟨g, n * 9 + 5, none⟩ (.int .i64 x.timer)).setCell ⟨g, n * 9 + 6, none⟩ (.int .i64 x.reg)).setCell ⟨g, n * 9 + 7, none⟩ (.int .i64 x.grp)).setCell ⟨g, n * 9 + 8, none⟩ (.int .i64 x.err)) w.heap.size w2.heap.size 35 9 (some ⟨g, 0, none⟩) l.length d (tkR.flat (outW l r (ws.take (k + 1))))) := by
          show OwnZ _ _ _ _ _ _ _ _ _
          rw [List.take_succ_eq_append_getElem hlt, EN.out, ← outW_snoc l r (ws.take k) HN.out, ← HT.out, ← HX.out, ← HM.out]
          exact OwnZ.mk_ (own_putTk (row_kept RO.out k5) HP.out x) hg2
        have HW5 := Lib.hid (HW.out.kept k5 (.inl (Nat.le_refl _)))
        have HK5 := Lib.hid (HK.out.trans k5)
        have z5 := k5.size
        go_wp2_with fail
        go_roundw
        case rel => exact ⟨k + 1, by omega, by go_num, RX, Lib.hid (HW5.out.kept KX.out (by omega)), Lib.hid (HK5.out.trans2 KX.out (.inr hg1)), by have := KX.out.size; omega⟩
        case measure => simp [intOf]; omega
    · go_wp2
      go_ret
      have e : k = ws.length := by omega
      subst e
      rw [EL.out]
      have := HO.out
      rw [List.take_length] at this
      have R : OwnTk wr w.heap.size wr.heap.size (.slice D l.length d) (outW l r ws) := ⟨D, d, by rw [outW_len], by rw [outW_len]; exact this.wide (Nat.le_refl _) (by omega)⟩
      exact ⟨_, rfl, R, HK.out⟩
end Go.Proofs.Ytfpnpjpcjbndoaa
