/- The reference's Armed; no condition beyond that the timers can be read. -/
import Derived.Test.YtnphjohmkjoefaaTs
namespace Go.Proofs.Ytnphjohmkjoefaa
open Go.RowKit Go.Sort

def armOk (t : Tms) (due what whom : Int) : Bool := !(decide (t.list.length = 64)) && !(decide (t.next = 1000000)) && tmOk ⟨t.next, due, what, whom, true⟩ (t.next + 1)
noncomputable def armL (t : Tms) (due what whom : Int) : Tms := if timersOkB t then (if armOk t due what whom then ⟨putL t.heap due t.next, t.list ++ [⟨t.next, due, what, whom, true⟩], t.next + 1⟩ else t) else zeroT
noncomputable def armI (t : Tms) (due what whom : Int) : Int := if timersOkB t then (if armOk t due what whom then t.next else -1) else -1
theorem ret_ui {u : Value} {b b' : Int} (h : b = b') : Ending.returned (.tuple #[u, .int .i64 b]) = .returned (.tuple #[u, .int .i64 b']) := by rw [h]
def DoesMA (f : FuncId) (g : Tms → Int → Int → Int → Tms) (b : Tms → Int → Int → Int → Int) : Prop := ∀ (t : Tms) (p q r : Int) (v : Value) (w : World), RdM w w.heap.size v t → Calls Try.prog f #[v, .int .i64 p, .int .i64 q, .int .i64 r] w fun e w' => ∃ u, e = .returned (.tuple #[u, .int .i64 (b t p q r)]) ∧ OwnM w' w.heap.size w'.heap.size u (g t p q r) ∧ Kept 0 0 w w'
theorem DoesMA.at_ {f : FuncId} {g : Tms → Int → Int → Int → Tms} {b : Tms → Int → Int → Int → Int} (h : DoesMA f g b) (t : Tms) (p q r : Int) (v : Value) (w : World) (hr : RdM w w.heap.size v t) : Calls Try.prog f #[v, .int .i64 p, .int .i64 q, .int .i64 r] w fun e w' => ∃ u, e = .returned (.tuple #[u, .int .i64 (b t p q r)]) ∧ OwnM w' w.heap.size w'.heap.size u (g t p q r) ∧ Kept 0 0 w w' := h t p q r v w hr
theorem own_lit5 (w : World) (x : Tm) : (w.alloc (.cells #[.int .i64 x.seq, .int .i64 x.due, .int .i64 x.what, .int .i64 x.whom, .bool x.armed] 50)).ownsRow w.heap.size 50 5 (.slice (some ⟨w.heap.size, 0, none⟩) 1 1) 1 (tmR.flat [x]) :=
  World.ownsRow_lit w #[.int .i64 x.seq, .int .i64 x.due, .int .i64 x.what, .int .i64 x.whom, .bool x.armed] 1 (Nat.le_refl _) (by unfold maxLen; omega) rfl

theorem kept_app {w w' : World} {D : Option Addr} (h : w.grownBy w' (rowAt D)) : Kept (aLo D) (aHi D) w w' := by
  cases D with
  | none => exact Kept.of_grown h (by intro k hk; cases hk)
  | some ad => exact Kept.of_grown h (by intro k hk; injection hk with hk; subst hk; exact ⟨Nat.le_refl _, Nat.lt_succ_self _⟩)
set_option maxHeartbeats 6400000 in
set_option maxRecDepth 100000 in
theorem arm4_any : DoesMA 65 armL armI := by
  intro t due what whom v w h
  have H := Lib.hid h
  obtain ⟨hv, lv, rfl, ⟨A1, c1, rfl, s2⟩, ⟨A2, c2, rfl, s3⟩⟩ := h
  have m2 := s3.rd.1
  unfold maxLen at m2
  obtain ⟨W, hW⟩ : ∃ W, W = (w.alloc (.cells #[.slice A1 t.heap.length c1, .slice A2 t.list.length c2, .int .i64 t.next] 27)).alloc (.cells #[.slice none 0 0, .slice none 0 0, .int .i64 0] 27) := ⟨_, rfl⟩
  have KV : Hid (Kept 0 0 w W) := by show Kept _ _ _ _; rw [hW]; exact (Kept.alloc0 _ _).alloc _
  have B0 : Hid (Blk W w.heap.size 27 #[.slice A1 t.heap.length c1, .slice A2 t.list.length c2, .int .i64 t.next]) := by show Blk _ _ _ _; rw [hW]; exact (Blk.new _ _ _).alloc _
  have R0 : Hid (Blk W (w.heap.size + 1) 27 #[.slice none 0 0, .slice none 0 0, .int .i64 0]) := by show Blk _ _ _ _; rw [hW]; exact blk2_new _ _ _ _
  have zW : w.heap.size + 2 ≤ W.heap.size := by rw [hW]; simp
  have CO := Lib.hid (ok4_any t _ W (H.out.up KV.out))
  have HW := Lib.hid hW
  have S3 := Lib.hid s3
  have S2 := Lib.hid s2
  clear s2 s3 hW
  go_enter Try.func65, Try.ntmps65
  go_wp2_with fail
  rw [← HW.out]
  with_reducible refine CO.out.mono ?_
  rintro e w1 ⟨rfl, hk⟩
  have K1 := Lib.hid (KV.out.trans hk)
  have B1 := Lib.hid (B0.out.kept hk (.inl (Nat.le_refl _)))
  have R1 := Lib.hid (R0.out.kept hk (.inl (Nat.le_refl _)))
  have z1 := hk.size
  clear hk CO HW B0 R0
  cases ho : timersOkB t
  · have E : Hid (armI t due what whom = -1) := by show _ = _; simp [armI, ho]
    have E2 : Hid (armL t due what whom = zeroT) := by show _ = _; simp [armL, ho]
    have r0 := bx0 R1.out
    have r1 := bx1 R1.out
    have r2 := bx2 R1.out
    have f0 := R1.out.frozen 0
    have f1 := R1.out.frozen 1
    have f2 := R1.out.frozen 2
    have BF := blk3 R1.out (.slice none 0 0) (.slice none 0 0) (.int .i64 0)
    have F0 := bx0 BF
    have F1 := bx1 BF
    have F2 := bx2 BF
    clear ho BF
    go_wp2_with fail
    exact bodyPost_ret (v := .tuple #[.agg #[.slice none 0 0, .slice none 0 0, .int .i64 0], .int .i64 (-1)]) (by simp [results, Try.results65, go_sem, F0, F1, F2]) rfl ⟨_, ret_ui E.out.symm, by rw [E2.out]; exact zero_own _ _ _, K1.out.trans2 (kept3 _ _ _ _ _) (.inr (by omega))⟩
  · have OK := Lib.hid (timersOk_iff.1 ho)
    have lh : t.heap.length ≤ 64 := (heapOk_iff.1 OK.out.heap).1
    have ll : t.list.length ≤ 64 := OK.out.len
    have EL : Hid (armL t due what whom = if armOk t due what whom then ⟨putL t.heap due t.next, t.list ++ [⟨t.next, due, what, whom, true⟩], t.next + 1⟩ else t) := by show _ = _; simp [armL, ho]
    have EB : Hid (armI t due what whom = if armOk t due what whom then t.next else -1) := by show _ = _; simp [armI, ho]
    have hnx := OK.out.next
    have CC := Lib.hid (copy4_any t _ w1 (H.out.up K1.out) (by omega) (by omega))
    have b0 := bx0 B1.out
    have b1 := bx1 B1.out
    have b2 := bx2 B1.out
    clear ho
    go_wp2_with fail
    clear b0 b1 b2
    with_reducible refine CC.out.mono ?_
    rintro e w2 ⟨u, rfl, ⟨_, _, rfl, ⟨D1, d1, rfl, o1⟩, ⟨D2, d2, rfl, o2⟩⟩, hk⟩
    obtain ⟨V, hV⟩ : ∃ V, V = w2.alloc (.cells #[.slice D1 t.heap.length d1, .slice D2 t.list.length d2, .int .i64 t.next] 27) := ⟨_, rfl⟩
    have kV : Kept 0 0 w2 V := by rw [hV]; exact Kept.alloc0 _ _
    have K2 := Lib.hid (K1.out.trans (hk.trans kV))
    have B2 := Lib.hid (B1.out.kept (hk.trans kV) (.inl (Nat.le_refl _)))
    have R2 := Lib.hid (R1.out.kept (hk.trans kV) (.inl (Nat.le_refl _)))
    have U2 : Hid (Blk V w2.heap.size 27 #[.slice D1 t.heap.length d1, .slice D2 t.list.length d2, .int .i64 t.next]) := by show Blk _ _ _ _; rw [hV]; exact Blk.new _ _ _
    have O1 := Lib.hid (o1.kept kV (.inl (Nat.le_refl _)))
    have O2 := Lib.hid (o2.kept kV (.inl (Nat.le_refl _)))
    have z2 := hk.size
    have zV := kV.size
    have yV := U2.out.lt
    have HV := Lib.hid hV
    obtain ⟨V2, hV2⟩ : ∃ V2, V2 = V.alloc (.cells #[.int .i64 t.next, .int .i64 due, .int .i64 what, .int .i64 whom, .bool true] 50) := ⟨_, rfl⟩
    have kX : Kept 0 0 V V2 := by rw [hV2]; exact Kept.alloc0 _ _
    have zv : V.heap.size = w2.heap.size + 1 := by rw [hV]; simp
    have X3 : Hid (Blk V2 (w2.heap.size + 1) 50 #[.int .i64 t.next, .int .i64 due, .int .i64 what, .int .i64 whom, .bool true]) := by show Blk _ _ _ _; rw [hV2, ← zv]; exact Blk.new _ _ _
    have K3 := Lib.hid (K2.out.trans kX)
    have B3 := Lib.hid (B2.out.kept kX (.inl (Nat.le_refl _)))
    have R3 := Lib.hid (R2.out.kept kX (.inl (Nat.le_refl _)))
    have U3 := Lib.hid (U2.out.kept kX (.inl (Nat.le_refl _)))
    have P1 := Lib.hid (O1.out.kept kX (.inl (Nat.le_refl _)))
    have P2 := Lib.hid (O2.out.kept kX (.inl (Nat.le_refl _)))
    have z3 := kX.size
    have y3 := X3.out.lt
    have c1' : Hid (V.cell? ⟨w.heap.size, 2, none⟩ = some (.int .i64 t.next)) := bx2 B2.out
    have c2' : Hid (V2.cell? ⟨w.heap.size, 1, none⟩ = some (.slice A2 t.list.length c2)) := bx1 B3.out
    have c3' : Hid (V2.cell? ⟨w.heap.size, 2, none⟩ = some (.int .i64 t.next)) := bx2 B3.out
    have HV2 := Lib.hid hV2
    clear hk kV o1 o2 CC B1 R1 K1 kX B2 R2 K2 U2 O1 O2
    have a1 := c1'.out
    have a2 := c2'.out
    have a3 := c3'.out
    rw [hV2] at a2 a3
    rw [hV] at a1 a2 a3
    have l0 : V2.cell? ⟨w2.heap.size + 1, 0, none⟩ = some (.int .i64 t.next) := X3.out.cell 0
    have l1 : V2.cell? ⟨w2.heap.size + 1, 1, none⟩ = some (.int .i64 due) := X3.out.cell 1
    have l2 : V2.cell? ⟨w2.heap.size + 1, 2, none⟩ = some (.int .i64 what) := X3.out.cell 2
    have l3 : V2.cell? ⟨w2.heap.size + 1, 3, none⟩ = some (.int .i64 whom) := X3.out.cell 3
    have l4 : V2.cell? ⟨w2.heap.size + 1, 4, none⟩ = some (.bool true) := X3.out.cell 4
    clear hV hV2 zv
    go_upto_region 5 with fail
    rw [← HV.out, ← HV2.out]
    clear a1 a2 a3 HV HV2
    have a2 := c2'.out
    have a3 := c3'.out
    by_cases hl : t.list.length = 64
    · have E : Hid (armI t due what whom = -1) := by show _ = _; rw [EB.out, armOk, decide_eq_true hl]; rfl
      have E2 : Hid (armL t due what whom = t) := by show _ = _; rw [EL.out, armOk, decide_eq_true hl]; rfl
      have g1 : ((t.list.length : Int) == 64) = true := by simp [hl]; done
      clear hl
      have r0 := bx0 R3.out
      have r1 := bx1 R3.out
      have r2 := bx2 R3.out
      have f0 := R3.out.frozen 0
      have f1 := R3.out.frozen 1
      have f2 := R3.out.frozen 2
      have BF := blk3 R3.out (.slice D1 t.heap.length d1) (.slice D2 t.list.length d2) (.int .i64 t.next)
      have F0 := bx0 BF
      have F1 := bx1 BF
      have F2 := bx2 BF
      have kF := kept3 V2 (w.heap.size + 1) (.slice D1 t.heap.length d1) (.slice D2 t.list.length d2) (.int .i64 t.next)
      have KF := Lib.hid kF
      have zF := kF.size
      have u0 := bx0 U3.out
      have u1 := bx1 U3.out
      have u2 := bx2 U3.out
      clear BF kF
      go_wp2_with fail
      refine bodyPost_ret (v := .tuple #[.agg #[.slice D1 t.heap.length d1, .slice D2 t.list.length d2, .int .i64 t.next], .int .i64 (-1)]) (by simp [results, Try.results65, go_sem, F0, F1, F2]) rfl ⟨_, ret_ui E.out.symm, ?_, K3.out.trans2 KF.out (.inr (by omega))⟩
      rw [E2.out]
      exact ⟨_, _, rfl, ⟨D1, d1, rfl, (P1.out.kept KF.out (.inr (.inr (by omega)))).wide (by omega) (by omega)⟩, ⟨D2, d2, rfl, (P2.out.kept KF.out (.inr (.inr (by omega)))).wide (by omega) (by omega)⟩⟩
    · have g1 : ((t.list.length : Int) == 64) = false := by simp; omega
      by_cases hx : t.next = 1000000
      · have E : Hid (armI t due what whom = -1) := by show _ = _; rw [EB.out, armOk, decide_eq_true hx]; simp
        have E2 : Hid (armL t due what whom = t) := by show _ = _; rw [EL.out, armOk, decide_eq_true hx]; simp
        have g2 : (t.next == 1000000) = true := by simp [hx]
        have HX := Lib.hid hx
        clear hl hx
        have r0 := bx0 R3.out
        have r1 := bx1 R3.out
        have r2 := bx2 R3.out
        have f0 := R3.out.frozen 0
        have f1 := R3.out.frozen 1
        have f2 := R3.out.frozen 2
        have BF := blk3 R3.out (.slice D1 t.heap.length d1) (.slice D2 t.list.length d2) (.int .i64 t.next)
        have F0 := bx0 BF
        have F1 := bx1 BF
        have F2 := bx2 BF
        have kF := kept3 V2 (w.heap.size + 1) (.slice D1 t.heap.length d1) (.slice D2 t.list.length d2) (.int .i64 t.next)
        have KF := Lib.hid kF
        have zF := kF.size
        have u0 := bx0 U3.out
        have u1 := bx1 U3.out
        have u2 := bx2 U3.out
        clear BF kF
        go_wp2_with fail
        refine bodyPost_ret (v := .tuple #[.agg #[.slice D1 t.heap.length d1, .slice D2 t.list.length d2, .int .i64 t.next], .int .i64 (-1)]) (by simp [results, Try.results65, go_sem, F0, F1, F2]) rfl ⟨_, ret_ui E.out.symm, ?_, K3.out.trans2 KF.out (.inr (by omega))⟩
        rw [E2.out]
        exact ⟨_, _, rfl, ⟨D1, d1, rfl, (P1.out.kept KF.out (.inr (.inr (by omega)))).wide (by omega) (by omega)⟩, ⟨D2, d2, rfl, (P2.out.kept KF.out (.inr (.inr (by omega)))).wide (by omega) (by omega)⟩⟩
      · have g2 : (t.next == 1000000) = false := by simpa using hx
        have CT := Lib.hid (timer4_any ⟨t.next, due, what, whom, true⟩ (t.next + 1) V2 (by omega) (by omega))
        have EO : Hid (armOk t due what whom = tmOk ⟨t.next, due, what, whom, true⟩ (t.next + 1)) := by show _ = _; simp [armOk, hl, hx]
        go_wp2_with fail
        with_reducible refine CT.out.mono ?_
        rintro e w4 ⟨rfl, hk⟩
        have K4 := Lib.hid (K3.out.trans hk)
        have B4 := Lib.hid (B3.out.kept hk (.inl (Nat.le_refl _)))
        have R4 := Lib.hid (R3.out.kept hk (.inl (Nat.le_refl _)))
        have U4 := Lib.hid (U3.out.kept hk (.inl (Nat.le_refl _)))
        have X4 := Lib.hid (X3.out.kept hk (.inl (Nat.le_refl _)))
        have Q1 := Lib.hid (P1.out.kept hk (.inl (Nat.le_refl _)))
        have Q2 := Lib.hid (P2.out.kept hk (.inl (Nat.le_refl _)))
        have z4 := hk.size
        clear hk CT a2 a3 l0 l1 l2 l3 l4 c2' c3' c1' B3 R3 U3 X3 P1 P2
        rw [← EO.out]
        cases hA : armOk t due what whom
        · have E : Hid (armI t due what whom = -1) := by show _ = _; rw [EB.out, hA]; rfl
          have E2 : Hid (armL t due what whom = t) := by show _ = _; rw [EL.out, hA]; rfl
          clear hA hl hx
          have r0 := bx0 R4.out
          have r1 := bx1 R4.out
          have r2 := bx2 R4.out
          have f0 := R4.out.frozen 0
          have f1 := R4.out.frozen 1
          have f2 := R4.out.frozen 2
          have BF := blk3 R4.out (.slice D1 t.heap.length d1) (.slice D2 t.list.length d2) (.int .i64 t.next)
          have F0 := bx0 BF
          have F1 := bx1 BF
          have F2 := bx2 BF
          have kF := kept3 w4 (w.heap.size + 1) (.slice D1 t.heap.length d1) (.slice D2 t.list.length d2) (.int .i64 t.next)
          have KF := Lib.hid kF
          have zF := kF.size
          have u0 := bx0 U4.out
          have u1 := bx1 U4.out
          have u2 := bx2 U4.out
          clear BF kF
          go_wp2_with fail
          refine bodyPost_ret (v := .tuple #[.agg #[.slice D1 t.heap.length d1, .slice D2 t.list.length d2, .int .i64 t.next], .int .i64 (-1)]) (by simp [results, Try.results65, go_sem, F0, F1, F2]) rfl ⟨_, ret_ui E.out.symm, ?_, K4.out.trans2 KF.out (.inr (by omega))⟩
          rw [E2.out]
          exact ⟨_, _, rfl, ⟨D1, d1, rfl, (Q1.out.kept KF.out (.inr (.inr (by omega)))).wide (by omega) (by omega)⟩, ⟨D2, d2, rfl, (Q2.out.kept KF.out (.inr (.inr (by omega)))).wide (by omega) (by omega)⟩⟩
        · have E : Hid (armI t due what whom = t.next) := by show _ = _; rw [EB.out, hA]; rfl
          have E2 : Hid (armL t due what whom = ⟨putL t.heap due t.next, t.list ++ [⟨t.next, due, what, whom, true⟩], t.next + 1⟩) := by show _ = _; rw [EL.out, hA]; rfl
          have HT := Lib.hid tmSlice
          have rg := Q2.out.range
          obtain ⟨x, hx5⟩ : ∃ x : Tm, x = ⟨t.next, due, what, whom, true⟩ := ⟨_, rfl⟩
          have HX5 := Lib.hid hx5
          obtain ⟨W5, hW5⟩ : ∃ W5, W5 = w4.alloc (.cells #[.int .i64 t.next, .int .i64 due, .int .i64 what, .int .i64 whom, .bool true] 50) := ⟨_, rfl⟩
          have k5 : Kept 0 0 w4 W5 := by rw [hW5]; exact Kept.alloc0 _ _
          have RX : Hid (RdR tmR W5 W5.heap.size (some ⟨w4.heap.size, 0, none⟩) [x]) := by
            show RdR _ _ _ _ _
            rw [hW5, hx5]
            exact (OwnZ.rd (R := tmR) (OwnZ.of_row (own_lit5 w4 ⟨t.next, due, what, whom, true⟩))).2
          have RO := Lib.hid (row_kept Q2.out.1 k5)
          have z5 := k5.size
          have K5 := Lib.hid (K4.out.trans k5)
          have B5 := Lib.hid (B4.out.kept k5 (.inl (Nat.le_refl _)))
          have R5 := Lib.hid (R4.out.kept k5 (.inl (Nat.le_refl _)))
          have U5 := Lib.hid (U4.out.kept k5 (.inl (Nat.le_refl _)))
          have zb : w1.heap.size ≤ W5.heap.size := by omega
          have HW5 := Lib.hid hW5
          have u1 := bx1 U4.out
          have x0 : w4.cell? ⟨w2.heap.size + 1, 0, none⟩ = some (.int .i64 t.next) := X4.out.cell 0
          have x1 : w4.cell? ⟨w2.heap.size + 1, 1, none⟩ = some (.int .i64 due) := X4.out.cell 1
          have x2 : w4.cell? ⟨w2.heap.size + 1, 2, none⟩ = some (.int .i64 what) := X4.out.cell 2
          have x3 : w4.cell? ⟨w2.heap.size + 1, 3, none⟩ = some (.int .i64 whom) := X4.out.cell 3
          have x4 : w4.cell? ⟨w2.heap.size + 1, 4, none⟩ = some (.bool true) := X4.out.cell 4
          rw [hW5] at RX RO zb
          clear hA hl hx hW5 hx5
          go_upto_region 8 with (at_builtin; refine wpList_app (R := tmR) rfl (.tmp 43) (.tmp 45) rfl HT.out w1.heap.size D2 d2 t.list rfl RO.out _ (some ⟨w4.heap.size, 0, none⟩) 1 [x] rfl RX.out (by simp [maxLen]; omega) (by simp; omega) zb ?_; intro D5 d5 w5 hown hgrow hat; have hgrow' := HW5.out ▸ hgrow; have c5 : Kept (aLo D2) (aHi D2) W5 w5 := kept_app hgrow'; have O5 := Lib.hid hown; have U6' := U5.out.kept c5 (by omega); have v1' := bx1 U6'; have fv1 := U6'.frozen 1; clear hown hgrow hat hgrow')
          have lx : Hid ((t.list ++ [x]).length = t.list.length + 1) := by show _ = _; simp
          rw [lx.out] at O5
          obtain ⟨V6, hV6⟩ : ∃ V6, V6 = w5.setCell ⟨w2.heap.size, 1, none⟩ (.slice D5 (t.list.length + 1) d5) := ⟨_, rfl⟩
          have k6 : Kept w2.heap.size (w2.heap.size + 1) w5 V6 := by rw [hV6]; exact (Kept.refl w2.heap.size (w2.heap.size + 1) w5).setCell (.inr ⟨Nat.le_refl _, Nat.lt_succ_self _⟩) _
          have U6 : Hid (Blk V6 w2.heap.size 27 #[.slice D1 t.heap.length d1, .slice D5 (t.list.length + 1) d5, .int .i64 t.next]) := by show Blk _ _ _ _; rw [hV6]; have := U6'.set_ 1 (.slice D5 (t.list.length + 1) d5); simpa using this
          have K6 := Lib.hid ((K5.out.trans2 c5 (by omega)).trans2 k6 (.inr (by omega)))
          have B6 := Lib.hid ((B5.out.kept c5 (by omega)).kept k6 (by omega))
          have R6 := Lib.hid ((R5.out.kept c5 (by omega)).kept k6 (by omega))
          have O6 := Lib.hid (row_other O5.out (row_ne O5.out U6' (by decide)) k6)
          have z6 := c5.size
          have y6 := k6.size
          have CP := Lib.hid (specPut.at_ t.heap due t.next (.slice A1 t.heap.length c1) V6 (by obtain ⟨_, _, e0, r1, _⟩ := H.out.up K6.out; injection e0 with e0; injection e0 with e0; injection e0 with e1 e2; subst e1; exact r1))
          have b0 := bx0 B6.out
          have b2 := bx2 B6.out
          have HV6 := Lib.hid hV6
          rw [hV6] at b0 b2
          clear c5 k6 hV6 U6' v1' fv1 u1 x0 x1 x2 x3 x4 RX RO zb HW5 B4 R4 U4 X4 Q1 Q2 K4 B5 R5 U5 K5 O5
          go_wp2_with fail
          rw [← HV6.out]
          clear b0 b2 HV6
          with_reducible refine CP.out.mono ?_
          rintro e w6 ⟨u6, rfl, ⟨D6, d6, rfl, o6⟩, hk⟩
          obtain ⟨hh, hhd⟩ : ∃ hh, hh = putL t.heap due t.next := ⟨_, rfl⟩
          rw [← hhd] at o6 E2
          rw [← hhd]
          clear hhd
          obtain ⟨V8, hV8⟩ : ∃ V8, V8 = (w6.setCell ⟨w2.heap.size, 0, none⟩ (.slice D6 hh.length d6)).setCell ⟨w2.heap.size, 2, none⟩ (.int .i64 (t.next + 1)) := ⟨_, rfl⟩
          have k8 : Kept w2.heap.size (w2.heap.size + 1) w6 V8 := by rw [hV8]; exact ((Kept.refl w2.heap.size (w2.heap.size + 1) w6).setCell (.inr ⟨Nat.le_refl _, Nat.lt_succ_self _⟩) _).setCell (.inr ⟨Nat.le_refl _, Nat.lt_succ_self _⟩) _
          have U7 := Lib.hid (U6.out.kept hk (.inl (Nat.le_refl _)))
          have U8 : Hid (Blk V8 w2.heap.size 27 #[.slice D6 hh.length d6, .slice D5 (t.list.length + 1) d5, .int .i64 (t.next + 1)]) := by show Blk _ _ _ _; rw [hV8]; have := (U7.out.set_ 0 (.slice D6 hh.length d6)).set_ 2 (.int .i64 (t.next + 1)); simpa using this
          have K8 := Lib.hid ((K6.out.trans hk).trans2 k8 (.inr (by omega)))
          have y7 := hk.size
          have y8 := k8.size
          have B7 := Lib.hid (B6.out.kept hk (.inl (Nat.le_refl _)))
          have B8 := Lib.hid (B7.out.kept k8 (by omega))
          have R8 := Lib.hid ((R6.out.kept hk (.inl (Nat.le_refl _))).kept k8 (by omega))
          have O7 := Lib.hid (row_kept O6.out hk)
          have O8 := Lib.hid (row_other O7.out (row_ne O7.out U7.out (by decide)) k8)
          have H8 := Lib.hid (o6.kept k8 (by omega))
          have u0 := bx0 U7.out
          have fu0 := U7.out.frozen 0
          have u2 := bx2 U7.out
          have fu2 := U7.out.frozen 2
          have bb2 := bx2 B7.out
          have b82 := bx2 B8.out
          have v0 := bx0 U8.out
          have v1 := bx1 U8.out
          have v2 := bx2 U8.out
          have r0 := bx0 R8.out
          have r1 := bx1 R8.out
          have r2 := bx2 R8.out
          have f0 := R8.out.frozen 0
          have f1 := R8.out.frozen 1
          have f2 := R8.out.frozen 2
          have BF := blk3 R8.out (.slice D6 hh.length d6) (.slice D5 (t.list.length + 1) d5) (.int .i64 (t.next + 1))
          have F0 := bx0 BF
          have F1 := bx1 BF
          have F2 := bx2 BF
          have kF := kept3 V8 (w.heap.size + 1) (.slice D6 hh.length d6) (.slice D5 (t.list.length + 1) d5) (.int .i64 (t.next + 1))
          have KF := Lib.hid kF
          have zF := kF.size
          have OF := Lib.hid (row_other O8.out (row_ne O8.out R8.out (by decide)) KF.out)
          have HV8 := Lib.hid hV8
          clear hk k8 hV8 o6 CP BF kF U6 B6 R6 K6 O6 B7 O7 U7
          go_upto_region 10 with fail
          rw [← HV8.out]
          clear u0 fu0 u2 fu2 bb2 HV8
          go_region
          all_goals go_wp2_with fail
          all_goals refine bodyPost_ret (v := .tuple #[.agg #[.slice D6 hh.length d6, .slice D5 (t.list.length + 1) d5, .int .i64 (t.next + 1)], .int .i64 t.next]) (by simp [results, Try.results65, go_sem, F0, F1, F2]) rfl ⟨_, ret_ui E.out.symm, ?_, (K8.out.trans2 KF.out (.inr (by omega))).drew⟩
          all_goals rw [E2.out]
          all_goals exact ⟨_, _, rfl, ⟨D6, d6, rfl, ((H8.out.kept KF.out (.inr (.inr (by omega)))).kept ((Kept.refl 0 0 _).drew) (.inl (Nat.le_refl _))).wide (by omega) (Nat.le_trans (by omega : w6.heap.size ≤ V8.heap.size) zF)⟩, ⟨D5, d5, by simp, by rw [← HX5.out]; show OwnZ _ _ _ _ _ _ _ _ _; rw [lx.out]; exact ((OwnZ.of_row OF.out).kept ((Kept.refl 0 0 _).drew) (.inl (Nat.le_refl _))).wide (by omega) (Nat.le_refl _)⟩⟩
end Go.Proofs.Ytnphjohmkjoefaa
