/- The program's Woken; no condition beyond that the slice can be read. -/
import Derived.Test.YtfpnpjpcjbndoaaIp
namespace Go.Proofs.Ytfpnpjpcjbndoaa
open Go.RowKit Go.Sort

theorem idxs_up (p : Tk → Bool) (xs : List Tk) : ∀ i, (idxs p i xs).Pairwise (· < ·) := by
  induction xs with
  | nil => intro i; exact List.Pairwise.nil
  | cons x r ih =>
    intro i
    simp only [idxs]
    split
    · refine List.Pairwise.cons ?_ (ih (i + 1))
      intro z hz
      obtain ⟨j, hj, e, _⟩ := (mem_idxs p r z (i + 1)).1 hz
      omega
    · exact ih (i + 1)
theorem idxs_inj (p : Tk → Bool) (xs : List Tk) (i : Nat) : ∀ k k' (hk : k < (idxs p i xs).length) (hk' : k' < (idxs p i xs).length), (idxs p i xs)[k] = (idxs p i xs)[k'] → k = k' := by
  intro k k' hk hk' e
  have pw := List.pairwise_iff_getElem.1 (idxs_up p xs i)
  rcases Nat.lt_trichotomy k k' with h | h | h
  · have := pw k k' hk hk' h; omega
  · exact h
  · have := pw k' k hk' hk h; omega
set_option maxHeartbeats 3200000 in
set_option maxRecDepth 100000 in
theorem implWoken (l : List Tk) (y h r : Int) (v : Value) (w : World) (h0 : RdTk w w.heap.size v l) :
    Calls Try.prog 11 #[v, .int .i64 y, .int .i64 h, .int .i64 r] w fun e w' => ∃ u, e = .returned u ∧ OwnTk w' w.heap.size w'.heap.size u (wokenL l y h r) ∧ Kept 0 0 w w' := by
  have H := Lib.hid h0
  have CO := Lib.hid (implTasksOk l v w h0)
  obtain ⟨A, c, rfl, h1⟩ := h0
  clear h1
  cases q1 : tasksB l
  · have EL : Hid (wokenL l y h r = []) := by show _ = _; simp [wokenL, q1]
    rw [q1] at CO
    clear q1
    go_enter Try.func11, Try.ntmps11
    go_wp2_with fail
    with_reducible refine CO.out.mono ?_
    rintro e w1 ⟨rfl, hk⟩
    have K1 := Lib.hid hk
    clear hk CO
    go_wp2_with fail
    go_ret
    rw [EL.out]
    exact ⟨_, rfl, OwnTk.nil _ _ _, K1.out⟩
  have L : l.length ≤ 60 := (tasksB_iff.1 q1).2
  have EL : Hid (wokenL l y h r = outW l r (idxTo (isPk y h) l l.length)) := by show _ = _; rw [idxTo_all _ l (Nat.le_refl _), outW_all]; simp [wokenL, q1]
  have RG : Hid (∀ z ∈ idxTo (isPk y h) l l.length, 0 ≤ z ∧ z < l.length) := fun z hz => by rw [idxTo_all _ l (Nat.le_refl _)] at hz; exact idx_range hz
  have ML := Lib.hid (idxTo_len (isPk y h) l l.length)
  have NO : Hid (∀ k k' (hk : k < (idxTo (isPk y h) l l.length).length) (hk' : k' < (idxTo (isPk y h) l l.length).length), (idxTo (isPk y h) l l.length)[k] = (idxTo (isPk y h) l l.length)[k'] → k = k') := by
    rw [idxTo_all _ l (Nat.le_refl _)]; exact idxs_inj (isPk y h) l 0
  rw [q1] at CO
  clear q1
  go_enter Try.func11, Try.ntmps11
  go_wp2_with fail
  with_reducible refine CO.out.mono ?_
  rintro e w1 ⟨rfl, hk⟩
  have K1 := Lib.hid hk
  have CC := Lib.hid (cloneTk_any l _ w1 (H.out.up hk) (by omega))
  have z1 := hk.size
  clear hk CO
  go_wp2_with fail
  with_reducible refine CC.out.mono ?_
  rintro e w2 ⟨_, rfl, ⟨D, d, rfl, ho⟩, hk⟩
  have K2 := Lib.hid (K1.out.trans hk)
  have O2 := Lib.hid (ho.wide (lo' := w.heap.size) (hi' := w2.heap.size) z1 (Nat.le_refl _))
  have CW := Lib.hid (waitingIn_any l _ w2 (H.out.up K2.out) L)
  have z2 := K2.out.size
  clear hk ho CC K1 z1
  go_wp2_with fail
  with_reducible refine CW.out.mono ?_
  rintro e w3 ⟨m, E, rfl, hw, hk⟩
  have K3 := Lib.hid (K2.out.trans hk)
  have O3 := Lib.hid (O2.out.kept hk (.inl (Nat.le_refl _)))
  have CT := Lib.hid (takenOut_any hw y h)
  have ml := hw.1
  have z5 := hk.size
  clear hk CW hw
  go_wp2_with fail
  with_reducible refine CT.out.mono ?_
  rintro e w4 ⟨F, f, rfl, ro, hk⟩
  have K4 := Lib.hid (K3.out.trans2 hk (.inr (by omega)))
  have O4 := Lib.hid (O3.out.kept hk (.inr (.inl ml)))
  have W4 := Lib.hid (OwnZ.of_row ro)
  have z3 := hk.size
  clear hk CT ro O2 O3 K3
  obtain ⟨ws, hws⟩ : ∃ ws, ws = idxTo (isPk y h) l l.length := ⟨_, rfl⟩
  rw [← hws] at EL RG W4 ML NO ⊢
  clear hws
  have WL : ws.length ≤ 60 := by have := ML.out; omega
  have O5 : Hid (OwnZ w4 w.heap.size w2.heap.size 35 9 D l.length d (tkR.flat (outW l r []))) := by rw [outW_nil]; exact O4.out
  have z4 := K4.out.size
  clear ML
  go_wp2_with fail
  go_loopw [24] (fun i wr => ∃ k : Nat, k ≤ ws.length ∧ i = .int .i64 k ∧ Hid (OwnZ wr w.heap.size w2.heap.size 35 9 D l.length d (tkR.flat (outW l r (ws.take k)))) ∧ Hid (OwnZ wr w2.heap.size w4.heap.size 2 1 F ws.length f (iR.flat ws)) ∧ Hid (Kept 0 0 w wr) ∧ w4.heap.size ≤ wr.heap.size) (fun i _ => ws.length - (intOf i).toNat)
  case atStart => exact ⟨0, Nat.zero_le _, rfl, O5, W4, K4, Nat.le_refl _⟩
  case round =>
    clear O4 O5 W4 K4
    obtain ⟨k, hk, rfl, HO, HW, HK, zr⟩ := hrel
    have z := HK.out.size
    by_cases hlt : k < ws.length
    · obtain ⟨n, hn, en⟩ : ∃ n : Nat, n < l.length ∧ ws[k] = (n : Int) := by
        have := RG.out _ (List.getElem_mem hlt)
        exact ⟨ws[k].toNat, by omega, by omega⟩
      obtain ⟨ai, rfl, _, ci⟩ := (OwnZ.rd (R := iR) HW.out).2.i hlt
      rw [en] at ci
      have FR : Hid ((n : Int) ∉ ws.take k) := by
        show ¬ _
        intro q
        obtain ⟨j, hj, e⟩ := List.getElem_of_mem q
        have hj' : j < k := by simp at hj; omega
        rw [List.getElem_take, ← en] at e
        have := NO.out j k (by omega) hlt e
        omega
      rcases HO.out.form with ⟨_, hz, _⟩ | ⟨g, rfl, hg1, hg2, hg3⟩
      · omega
      obtain ⟨M, hM⟩ : ∃ M, M = outW l r (ws.take k) := ⟨_, rfl⟩
      have hpl : n < M.length := by rw [hM, outW_len]; exact hn
      obtain ⟨m', hm⟩ : ∃ m', m' = M[n] := ⟨_, rfl⟩
      have hl : m' = l[n] := by
        rw [hm]
        have := outW_at l r (ws.take k) hn
        rw [if_neg FR.out] at this
        rw [← this]
        congr 1
      have EN := Lib.hid en
      have HN := Lib.hid hn
      have HM := Lib.hid hM
      have HP := Lib.hid hpl
      have HL := Lib.hid hl
      have RO : Hid (wr.ownsRow w.heap.size 35 9 (.slice (some ⟨g, 0, none⟩) l.length d) l.length (tkR.flat M)) := by rw [hM]; exact HO.out.1
      have SO : Hid (∀ w', Kept 0 0 wr w' → w'.cell? ⟨g, n * 9, none⟩ = some (.int .i64 m'.prog) ∧ w'.cell? ⟨g, n * 9 + 1, none⟩ = some (.int .i64 m'.pc) ∧ w'.cell? ⟨g, n * 9 + 2, none⟩ = some (.int .i64 m'.st) ∧ w'.cell? ⟨g, n * 9 + 3, none⟩ = some (.int .i64 m'.why) ∧ w'.cell? ⟨g, n * 9 + 4, none⟩ = some (.int .i64 m'.what) ∧ w'.cell? ⟨g, n * 9 + 5, none⟩ = some (.int .i64 m'.timer) ∧ w'.cell? ⟨g, n * 9 + 6, none⟩ = some (.int .i64 m'.reg) ∧ w'.cell? ⟨g, n * 9 + 7, none⟩ = some (.int .i64 m'.grp) ∧ w'.cell? ⟨g, n * 9 + 8, none⟩ = some (.int .i64 m'.err) ∧ w'.frozen? ⟨g, n * 9, none⟩ = false ∧ w'.frozen? ⟨g, n * 9 + 1, none⟩ = false ∧ w'.frozen? ⟨g, n * 9 + 2, none⟩ = false ∧ w'.frozen? ⟨g, n * 9 + 3, none⟩ = false ∧ w'.frozen? ⟨g, n * 9 + 4, none⟩ = false ∧ w'.frozen? ⟨g, n * 9 + 5, none⟩ = false ∧ w'.frozen? ⟨g, n * 9 + 6, none⟩ = false ∧ w'.frozen? ⟨g, n * 9 + 7, none⟩ = false ∧ w'.frozen? ⟨g, n * 9 + 8, none⟩ = false) := by
        intro w' kw
        have q := row_kept RO.out kw
        exact ⟨own_at (R := tkR) q hpl 0 (by rw [hm]; rfl), own_at (R := tkR) q hpl 1 (by rw [hm]; rfl), own_at (R := tkR) q hpl 2 (by rw [hm]; rfl), own_at (R := tkR) q hpl 3 (by rw [hm]; rfl), own_at (R := tkR) q hpl 4 (by rw [hm]; rfl), own_at (R := tkR) q hpl 5 (by rw [hm]; rfl), own_at (R := tkR) q hpl 6 (by rw [hm]; rfl), own_at (R := tkR) q hpl 7 (by rw [hm]; rfl), own_at (R := tkR) q hpl 8 (by rw [hm]; rfl), q.frozenAt _, q.frozenAt _, q.frozenAt _, q.frozenAt _, q.frozenAt _, q.frozenAt _, q.frozenAt _, q.frozenAt _, q.frozenAt _⟩
      have i1 : (k : Int) < (ws.length : Int) := by omega
      have i2 : (n : Int) < (l.length : Int) := by omega
      have i3 : 0 ≤ (n : Int) := by omega
      obtain ⟨c0, c1, c2, c3, c4, c5, c6, c7, c8, f0, f1, f2, f3, f4, f5, f6, f7, f8⟩ := SO.out wr (Kept.refl _ _ _)
      obtain ⟨x, hx⟩ : ∃ x, x = readyT m' r := ⟨_, rfl⟩
      have CR : Hid (Calls Try.prog 35 #[.agg #[.int .i64 m'.prog, .int .i64 m'.pc, .int .i64 m'.st, .int .i64 m'.why, .int .i64 m'.what, .int .i64 m'.timer, .int .i64 m'.reg, .int .i64 m'.grp, .int .i64 m'.err], .int .i64 r] wr fun e w' => e = .returned (.agg #[.int .i64 x.prog, .int .i64 x.pc, .int .i64 x.st, .int .i64 x.why, .int .i64 x.what, .int .i64 x.timer, .int .i64 x.reg, .int .i64 x.grp, .int .i64 x.err]) ∧ Kept 0 0 wr w') := by show Calls _ _ _ _ _; rw [hx]; exact implReadied m' r wr
      have HX := Lib.hid hx
      clear hM hpl hm hl en FR hx
      go_wp2_with fail
      with_reducible refine CR.out.mono ?_
      rintro e w5 ⟨rfl, k5⟩
      have K5 := Lib.hid k5
      clear c0 c1 c2 c3 c4 c5 c6 c7 c8 f0 f1 f2 f3 f4 f5 f6 f7 f8
      obtain ⟨c0, c1, c2, c3, c4, c5, c6, c7, c8, f0, f1, f2, f3, f4, f5, f6, f7, f8⟩ := SO.out w5 k5
      have z6 := k5.size
      clear k5
      have KX : Hid (Kept g (g + 1) w5 (((((((((w5.setCell ⟨g, n * 9, none⟩ (.int .i64 x.prog)).setCell ⟨g, n * 9 + 1, none⟩ (.int .i64 x.pc)).setCell ⟨g, n * 9 + 2, none⟩ (.int .i64 x.st)).setCell ⟨g, n * 9 + 3, none⟩ (.int .i64 x.why)).setCell ⟨g, n * 9 + 4, none⟩ (.int .i64 x.what)).setCell ⟨g, n * 9 + 5, none⟩ (.int .i64 x.timer)).setCell ⟨g, n * 9 + 6, none⟩ (.int .i64 x.reg)).setCell ⟨g, n * 9 + 7, none⟩ (.int .i64 x.grp)).setCell ⟨g, n * 9 + 8, none⟩ (.int .i64 x.err))) := ((((((((((Kept.refl g (g + 1) w5).setCell (.inr ⟨Nat.le_refl _, Nat.lt_succ_self _⟩) _).setCell (.inr ⟨Nat.le_refl _, Nat.lt_succ_self _⟩) _).setCell (.inr ⟨Nat.le_refl _, Nat.lt_succ_self _⟩) _).setCell (.inr ⟨Nat.le_refl _, Nat.lt_succ_self _⟩) _).setCell (.inr ⟨Nat.le_refl _, Nat.lt_succ_self _⟩) _).setCell (.inr ⟨Nat.le_refl _, Nat.lt_succ_self _⟩) _).setCell (.inr ⟨Nat.le_refl _, Nat.lt_succ_self _⟩) _).setCell (.inr ⟨Nat.le_refl _, Nat.lt_succ_self _⟩) _).setCell (.inr ⟨Nat.le_refl _, Nat.lt_succ_self _⟩) _)
      have RX : Hid (OwnZ (((((((((w5.setCell ⟨g, n * 9, none⟩ (.int .i64 x.prog)).setCell ⟨g, n * 9 + 1, none⟩ (.int .i64 x.pc)).setCell ⟨g, n * 9 + 2, none⟩ (.int .i64 x.st)).setCell ⟨g, n * 9 + 3, none⟩ (.int .i64 x.why)).setCell ⟨g, n * 9 + 4, none⟩ (.int .i64 x.what)).setCell ⟨g, n * 9 + 5, none⟩ (.int .i64 x.timer)).setCell ⟨g, n * 9 + 6, none⟩ (.int .i64 x.reg)).setCell ⟨g, n * 9 + 7, none⟩ (.int .i64 x.grp)).setCell ⟨g, n * 9 + 8, none⟩ (.int .i64 x.err)) w.heap.size w2.heap.size 35 9 (some ⟨g, 0, none⟩) l.length d (tkR.flat (outW l r (ws.take (k + 1))))) := by
        show OwnZ _ _ _ _ _ _ _ _ _
        rw [List.take_succ_eq_append_getElem hlt, EN.out, ← outW_snoc l r (ws.take k) HN.out, ← HL.out, ← HX.out, ← HM.out]
        exact OwnZ.mk_ (own_putTk (row_kept RO.out K5.out) HP.out x) hg2
      have HW5 := Lib.hid (HW.out.kept K5.out (.inl (Nat.le_refl _)))
      have HK5 := Lib.hid (HK.out.trans K5.out)
      go_wp2_with fail
      go_roundw
      case rel => exact ⟨k + 1, by omega, by go_num, RX, Lib.hid (HW5.out.kept KX.out (by omega)), Lib.hid (HK5.out.trans2 KX.out (.inr hg1)), by have := KX.out.size; omega⟩
      case measure => simp [intOf]; omega
    · go_wp2
      go_ret
      have e : k = ws.length := by omega
      subst e
      rw [EL.out]
      have := HO.out
      rw [List.take_length] at this
      have R : OwnTk wr w.heap.size wr.heap.size (.slice D l.length d) (outW l r ws) := ⟨D, d, by rw [outW_len], by rw [outW_len]; exact this.wide (Nat.le_refl _) (by omega)⟩
      exact ⟨_, rfl, R, HK.out⟩
end Go.Proofs.Ytfpnpjpcjbndoaa
