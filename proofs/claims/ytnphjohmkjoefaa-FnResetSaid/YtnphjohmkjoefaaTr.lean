/- The reference's Stopped; no condition beyond that the timers can be read. -/
import Derived.Test.YtnphjohmkjoefaaTq
namespace Go.Proofs.Ytnphjohmkjoefaa
open Go.RowKit Go.Sort

/-- One cell of one record is stored. -/
theorem Rec.flat_set1 {α : Type} (R : Rec α) (xs : List α) (i : Nat) (hi : i < xs.length) (j : Nat) (hj : j < R.k) (u : Value) (x : α) (hx : R.cells x = (R.cells xs[i]).set j u) : (R.flat xs).set (i * R.k + j) u = R.flat (xs.set i x) := by
  induction xs generalizing i with
  | nil => simp at hi
  | cons y r ih =>
    cases i with
    | zero =>
      rw [List.set_cons_zero, R.flat_cons, R.flat_cons, hx, Nat.zero_mul, Nat.zero_add, List.set_append_left _ _ (by rw [R.len]; exact hj)]
      rfl
    | succ i =>
      have e : (i + 1) * R.k + j = R.k + (i * R.k + j) := by rw [Nat.succ_mul]; omega
      rw [List.set_cons_succ, R.flat_cons, R.flat_cons, ← ih i (by simpa using hi) (by simpa using hx), e, List.set_append_right _ _ (by rw [R.len]; omega), R.len, Nat.add_sub_cancel_left]
def disarm (x : Tm) : Tm := { x with armed := false }
/-- The timers with the one of this Seq stopped. -/
noncomputable def stoppedT (t : Tms) (q : Int) : Tms := match atL t.list q with
  | none => t
  | some k => ⟨withoutL t.heap q, t.list.modify k disarm, t.next⟩
def armedAt (t : Tms) (q : Int) : Bool := match atL t.list q with
  | none => false
  | some k => match t.list[k]? with | some x => x.armed | none => false
def zeroT : Tms := ⟨[], [], 0⟩
noncomputable def stopL (t : Tms) (q : Int) : Tms := if timersOkB t then stoppedT t q else zeroT
noncomputable def stopB (t : Tms) (q : Int) : Bool := timersOkB t && armedAt t q
theorem modify_set {l : List Tm} {k : Nat} (hk : k < l.length) (f : Tm → Tm) : l.modify k f = l.set k (f l[k]) := by
  apply List.ext_getElem
  · simp
  · intro i h1 h2
    rw [List.getElem_modify, List.getElem_set]
    split
    · subst_vars; rfl
    · rfl
theorem ret_ub {u : Value} {b b' : Bool} (h : b = b') : Ending.returned (.tuple #[u, .bool b]) = .returned (.tuple #[u, .bool b']) := by rw [h]
theorem own_set1Tm {w : World} {base n c g : Nat} {xs : List Tm} (h : w.ownsRow base 50 5 (.slice (some ⟨g, 0, none⟩) n c) n (tmR.flat xs)) {k : Nat} (hk : k < xs.length) (j : Nat) (hj : j < 5) (u : Value) (x : Tm) (hx : tmR.cells x = (tmR.cells xs[k]).set j u) :
    (w.setCell ⟨g, k * 5 + j, none⟩ u).ownsRow base 50 5 (.slice (some ⟨g, 0, none⟩) n c) n (tmR.flat (xs.set k x)) := by
  have h1 := (h.stored (k * 5 + j) u).1
  rw [← tmR.flat_set1 xs k hk j hj u x hx]
  exact h1

/-- What is asked of a function of timers and a number that returns timers and a bool. -/
def DoesMI (f : FuncId) (g : Tms → Int → Tms) (b : Tms → Int → Bool) : Prop := ∀ (t : Tms) (q : Int) (v : Value) (w : World), RdM w w.heap.size v t → Calls Try.prog f #[v, .int .i64 q] w fun e w' => ∃ u, e = .returned (.tuple #[u, .bool (b t q)]) ∧ OwnM w' w.heap.size w'.heap.size u (g t q) ∧ Kept 0 0 w w'
theorem DoesMI.at_ {f : FuncId} {g : Tms → Int → Tms} {b : Tms → Int → Bool} (h : DoesMI f g b) (t : Tms) (q : Int) (v : Value) (w : World) (hr : RdM w w.heap.size v t) : Calls Try.prog f #[v, .int .i64 q] w fun e w' => ∃ u, e = .returned (.tuple #[u, .bool (b t q)]) ∧ OwnM w' w.heap.size w'.heap.size u (g t q) ∧ Kept 0 0 w w' := h t q v w hr
theorem zero_own (w : World) (lo hi : Nat) : OwnM w lo hi (.agg #[.slice none 0 0, .slice none 0 0, .int .i64 0]) zeroT := ⟨_, _, rfl, ⟨none, 0, rfl, ⟨⟨rfl, .inl ⟨rfl, rfl⟩⟩, by intro ad h; cases h⟩⟩, OwnTm.nil _ _ _⟩
/-- Three stores into a box of the call's own. -/
theorem kept3 (w : World) (g : Nat) (a b c : Value) : Kept g (g + 1) w (((w.setCell ⟨g, 0, none⟩ a).setCell ⟨g, 1, none⟩ b).setCell ⟨g, 2, none⟩ c) :=
  (((Kept.refl g (g + 1) w).setCell (.inr ⟨Nat.le_refl _, Nat.lt_succ_self _⟩) _).setCell (.inr ⟨Nat.le_refl _, Nat.lt_succ_self _⟩) _).setCell (.inr ⟨Nat.le_refl _, Nat.lt_succ_self _⟩) _
theorem blk3 {w : World} {g : Nat} {ty : TypeId} {x y z : Value} (h : Blk w g ty #[x, y, z]) (a b c : Value) : Blk (((w.setCell ⟨g, 0, none⟩ a).setCell ⟨g, 1, none⟩ b).setCell ⟨g, 2, none⟩ c) g ty #[a, b, c] := by
  have := ((h.set_ 0 a).set_ 1 b).set_ 2 c
  simpa using this
theorem blk2_new (w : World) (o : Obj) (ty : TypeId) (cs : Array Value) : Blk ((w.alloc o).alloc (.cells cs ty)) (w.heap.size + 1) ty cs := by
  have := Blk.new (w.alloc o) ty cs
  simpa using this

set_option maxHeartbeats 3200000 in
set_option maxRecDepth 100000 in
theorem stop4_any : DoesMI 22 stopL stopB := by
  intro t q v w h
  have H := Lib.hid h
  obtain ⟨hv, lv, rfl, ⟨A1, c1, rfl, s2⟩, ⟨A2, c2, rfl, s3⟩⟩ := h
  have m2 := s3.rd.1
  unfold maxLen at m2
  obtain ⟨W, hW⟩ : ∃ W, W = (w.alloc (.cells #[.slice A1 t.heap.length c1, .slice A2 t.list.length c2, .int .i64 t.next] 27)).alloc (.cells #[.slice none 0 0, .slice none 0 0, .int .i64 0] 27) := ⟨_, rfl⟩
  have KV : Hid (Kept 0 0 w W) := by show Kept _ _ _ _; rw [hW]; exact (Kept.alloc0 _ _).alloc _
  have B0 : Hid (Blk W w.heap.size 27 #[.slice A1 t.heap.length c1, .slice A2 t.list.length c2, .int .i64 t.next]) := by show Blk _ _ _ _; rw [hW]; exact (Blk.new _ _ _).alloc _
  have R0 : Hid (Blk W (w.heap.size + 1) 27 #[.slice none 0 0, .slice none 0 0, .int .i64 0]) := by show Blk _ _ _ _; rw [hW]; exact blk2_new _ _ _ _
  have zW : w.heap.size + 2 ≤ W.heap.size := by rw [hW]; simp
  have CO := Lib.hid (ok4_any t _ W (H.out.up KV.out))
  have HW := Lib.hid hW
  have S3 := Lib.hid s3
  clear s2 s3 hW
  go_enter Try.func22, Try.ntmps22
  go_wp2_with fail
  rw [← HW.out]
  with_reducible refine CO.out.mono ?_
  rintro e w1 ⟨rfl, hk⟩
  have K1 := Lib.hid (KV.out.trans hk)
  have B1 := Lib.hid (B0.out.kept hk (.inl (Nat.le_refl _)))
  have R1 := Lib.hid (R0.out.kept hk (.inl (Nat.le_refl _)))
  have z1 := hk.size
  clear hk CO HW B0 R0
  cases ho : timersOkB t
  · have E : Hid (stopB t q = false) := by show _ = _; simp [stopB, ho]
    have E2 : Hid (stopL t q = zeroT) := by show _ = _; simp [stopL, ho]
    have r0 := bx0 R1.out
    have r1 := bx1 R1.out
    have r2 := bx2 R1.out
    have f0 := R1.out.frozen 0
    have f1 := R1.out.frozen 1
    have f2 := R1.out.frozen 2
    have BF := blk3 R1.out (.slice none 0 0) (.slice none 0 0) (.int .i64 0)
    have F0 := bx0 BF
    have F1 := bx1 BF
    have F2 := bx2 BF
    clear ho BF
    go_wp2_with fail
    exact bodyPost_ret (v := .tuple #[.agg #[.slice none 0 0, .slice none 0 0, .int .i64 0], .bool false]) (by simp [results, Try.results22, go_sem, F0, F1, F2]) rfl ⟨_, ret_ub E.out.symm, by rw [E2.out]; exact zero_own _ _ _, K1.out.trans2 (kept3 _ _ _ _ _) (.inr (by omega))⟩
  · have OK := Lib.hid (timersOk_iff.1 ho)
    have lh : t.heap.length ≤ 64 := (heapOk_iff.1 OK.out.heap).1
    have ll : t.list.length ≤ 64 := OK.out.len
    have EL : Hid (stopL t q = stoppedT t q) := by show _ = _; simp [stopL, ho]
    have EB : Hid (stopB t q = armedAt t q) := by show _ = _; simp [stopB, ho]
    have CC := Lib.hid (copy4_any t _ w1 (H.out.up K1.out) (by omega) (by omega))
    have b0 := bx0 B1.out
    have b1 := bx1 B1.out
    have b2 := bx2 B1.out
    clear ho
    go_wp2_with fail
    clear b0 b1 b2
    with_reducible refine CC.out.mono ?_
    rintro e w2 ⟨u, rfl, ⟨_, _, rfl, ⟨D1, d1, rfl, o1⟩, ⟨D2, d2, rfl, o2⟩⟩, hk⟩
    obtain ⟨V, hV⟩ : ∃ V, V = w2.alloc (.cells #[.slice D1 t.heap.length d1, .slice D2 t.list.length d2, .int .i64 t.next] 27) := ⟨_, rfl⟩
    have kV : Kept 0 0 w2 V := by rw [hV]; exact Kept.alloc0 _ _
    have K2 := Lib.hid (K1.out.trans (hk.trans kV))
    have B2 := Lib.hid (B1.out.kept (hk.trans kV) (.inl (Nat.le_refl _)))
    have R2 := Lib.hid (R1.out.kept (hk.trans kV) (.inl (Nat.le_refl _)))
    have U2 : Hid (Blk V w2.heap.size 27 #[.slice D1 t.heap.length d1, .slice D2 t.list.length d2, .int .i64 t.next]) := by show Blk _ _ _ _; rw [hV]; exact Blk.new _ _ _
    have O1 := Lib.hid (o1.kept kV (.inl (Nat.le_refl _)))
    have O2 := Lib.hid (o2.kept kV (.inl (Nat.le_refl _)))
    have z2 := hk.size
    have zV := kV.size
    have yV := U2.out.lt
    have HV := Lib.hid hV
    have CA := Lib.hid (at4_any t q _ V _ (Nat.le_refl _) (H.out.up K2.out))
    have b0 := bx0 B2.out
    have b1 := bx1 B2.out
    have b2 := bx2 B2.out
    rw [hV] at b0 b1 b2
    clear hk kV o1 o2 CC B1 R1 K1 hV
    go_wp2_with fail
    rw [← HV.out]
    clear b0 b1 b2 HV
    with_reducible refine CA.out.mono ?_
    rintro e w3 ⟨rfl, hk⟩
    have K3 := Lib.hid (K2.out.trans hk)
    have B3 := Lib.hid (B2.out.kept hk (.inl (Nat.le_refl _)))
    have R3 := Lib.hid (R2.out.kept hk (.inl (Nat.le_refl _)))
    have U3 := Lib.hid (U2.out.kept hk (.inl (Nat.le_refl _)))
    have P1 := Lib.hid (O1.out.kept hk (.inl (Nat.le_refl _)))
    have P2 := Lib.hid (O2.out.kept hk (.inl (Nat.le_refl _)))
    have z3 := hk.size
    clear hk CA B2 R2 K2 U2 O1 O2
    cases hp : atL t.list q with
    | none =>
      have E : Hid (stopB t q = false) := by show _ = _; rw [EB.out, armedAt, hp]
      have E2 : Hid (stopL t q = t) := by show _ = _; rw [EL.out, stoppedT, hp]
      rw [atI_none hp]
      have r0 := bx0 R3.out
      have r1 := bx1 R3.out
      have r2 := bx2 R3.out
      have f0 := R3.out.frozen 0
      have f1 := R3.out.frozen 1
      have f2 := R3.out.frozen 2
      have u0 := bx0 U3.out
      have u1 := bx1 U3.out
      have u2 := bx2 U3.out
      have BF := blk3 R3.out (.slice D1 t.heap.length d1) (.slice D2 t.list.length d2) (.int .i64 t.next)
      have F0 := bx0 BF
      have F1 := bx1 BF
      have F2 := bx2 BF
      have kF := kept3 w3 (w.heap.size + 1) (.slice D1 t.heap.length d1) (.slice D2 t.list.length d2) (.int .i64 t.next)
      have KF := Lib.hid kF
      have zF := kF.size
      clear hp BF kF
      go_wp2_with fail
      refine bodyPost_ret (v := .tuple #[.agg #[.slice D1 t.heap.length d1, .slice D2 t.list.length d2, .int .i64 t.next], .bool false]) (by simp [results, Try.results22, go_sem, F0, F1, F2]) rfl ⟨_, ret_ub E.out.symm, ?_, K3.out.trans2 KF.out (.inr (by omega))⟩
      rw [E2.out]
      exact ⟨_, _, rfl, ⟨D1, d1, rfl, (P1.out.kept KF.out (.inr (.inr (by omega)))).wide (by omega) (by omega)⟩, ⟨D2, d2, rfl, (P2.out.kept KF.out (.inr (.inr (by omega)))).wide (by omega) (by omega)⟩⟩
    | some k =>
      obtain ⟨hkl, hke⟩ := atL_some hp
      rw [atI_some hp]
      have E : Hid (stopB t q = t.list[k].armed) := by show _ = _; rw [EB.out, armedAt, hp]; simp [hkl]
      have E2 : Hid (stopL t q = ⟨withoutL t.heap q, t.list.set k (disarm t.list[k]), t.next⟩) := by show _ = _; rw [EL.out, stoppedT, hp]; simp [modify_set hkl]
      have i1 : (k : Int) < (t.list.length : Int) := by omega
      have i3 : decide ((k : Int) < 0) = false := by simp
      rcases P2.out.form with ⟨_, h0, _⟩ | ⟨g2, rfl, hlo, hhi, _⟩
      · omega
      have c4 : w3.cell? ⟨g2, k * 5 + 4, none⟩ = some (.bool t.list[k].armed) := own_at (R := tmR) P2.out.1 hkl 4 rfl
      have f4 : w3.frozen? ⟨g2, k * 5 + 4, none⟩ = false := P2.out.1.frozenAt _
      obtain ⟨V3, hV3⟩ : ∃ V3, V3 = w3.setCell ⟨g2, k * 5 + 4, none⟩ (.bool false) := ⟨_, rfl⟩
      have k3 : Kept g2 (g2 + 1) w3 V3 := by rw [hV3]; exact (Kept.refl g2 (g2 + 1) w3).setCell (.inr ⟨Nat.le_refl _, Nat.lt_succ_self _⟩) _
      have Q2 : Hid (V3.ownsRow w1.heap.size 50 5 (.slice (some ⟨g2, 0, none⟩) t.list.length d2) t.list.length (tmR.flat (t.list.set k (disarm t.list[k])))) := by
        show World.ownsRow _ _ _ _ _ _ _
        rw [hV3]
        exact own_set1Tm P2.out.1 hkl 4 (by decide) _ _ rfl
      have K4 := Lib.hid (K3.out.trans2 k3 (.inr (by omega)))
      have B4 := Lib.hid (B3.out.kept k3 (by omega))
      have R4 := Lib.hid (R3.out.kept k3 (by omega))
      have U4 := Lib.hid (U3.out.kept k3 (by omega))
      have z4 := k3.size
      have CW := Lib.hid (specWithout.at_ t.heap q (.slice A1 t.heap.length c1) V3 (by obtain ⟨_, _, e0, r1, _⟩ := H.out.up K4.out; injection e0 with e0; injection e0 with e0; injection e0 with e1 e2; subst e1; exact r1))
      have u1 := bx1 U3.out
      have b0 := bx0 B4.out
      have HV := Lib.hid hV3
      rw [hV3] at b0
      clear hp k3 hV3
      go_wp2_with fail
      rw [← HV.out]
      clear u1 b0 HV c4 f4
      with_reducible refine CW.out.mono ?_
      rintro e w4 ⟨u4, rfl, ⟨D4, d4, rfl, o4⟩, hk⟩
      obtain ⟨V4, hV4⟩ : ∃ V4, V4 = w4.setCell ⟨w2.heap.size, 0, none⟩ (.slice D4 (withoutL t.heap q).length d4) := ⟨_, rfl⟩
      have k4 : Kept w2.heap.size (w2.heap.size + 1) w4 V4 := by rw [hV4]; exact (Kept.refl w2.heap.size (w2.heap.size + 1) w4).setCell (.inr ⟨Nat.le_refl _, Nat.lt_succ_self _⟩) _
      have U5 := Lib.hid (U4.out.kept hk (.inl (Nat.le_refl _)))
      have y4 := hk.size
      have yy := k4.size
      have U6 : Hid (Blk V4 w2.heap.size 27 #[.slice D4 (withoutL t.heap q).length d4, .slice (some ⟨g2, 0, none⟩) t.list.length d2, .int .i64 t.next]) := by show Blk _ _ _ _; rw [hV4]; have := U5.out.set_ 0 (.slice D4 (withoutL t.heap q).length d4); simpa using this
      have K5 := Lib.hid ((K4.out.trans hk).trans2 k4 (.inr (by omega)))
      have B5 := Lib.hid ((B4.out.kept hk (.inl (Nat.le_refl _))).kept k4 (by omega))
      have R5 := Lib.hid ((R4.out.kept hk (.inl (Nat.le_refl _))).kept k4 (by omega))
      have O4 := Lib.hid (o4.kept k4 (by omega))
      have Q5 := Lib.hid ((OwnZ.mk_ (hi := w2.heap.size) (row_kept Q2.out hk) hhi).kept k4 (by omega))
      have u0 := bx0 U5.out
      have fu := U5.out.frozen 0
      have HV := Lib.hid hV4
      obtain ⟨ad, ea, _, e0, e1, e2, e3, e4⟩ := (S3.out.rd.kept (Nat.le_refl _) K5.out (.inl (Nat.le_refl _))).tm hkl
      subst ea
      have v0 := bx0 U6.out
      have v1 := bx1 U6.out
      have v2 := bx2 U6.out
      have b1 := bx1 B5.out
      have r0 := bx0 R5.out
      have r1 := bx1 R5.out
      have r2 := bx2 R5.out
      have f0 := R5.out.frozen 0
      have f1 := R5.out.frozen 1
      have f2 := R5.out.frozen 2
      have BF := blk3 R5.out (.slice D4 (withoutL t.heap q).length d4) (.slice (some ⟨g2, 0, none⟩) t.list.length d2) (.int .i64 t.next)
      have F0 := bx0 BF
      have F1 := bx1 BF
      have F2 := bx2 BF
      have kF := kept3 V4 (w.heap.size + 1) (.slice D4 (withoutL t.heap q).length d4) (.slice (some ⟨g2, 0, none⟩) t.list.length d2) (.int .i64 t.next)
      have KF := Lib.hid kF
      have zF := kF.size
      clear hk k4 hV4 o4 CW BF kF U4 B4 R4 K4 Q2 U3 R3 B3 K3
      go_wp2_with fail
      rw [← HV.out]
      clear HV u0 fu
      go_region
      all_goals go_wp2_with fail
      all_goals refine bodyPost_ret (v := .tuple #[.agg #[.slice D4 (withoutL t.heap q).length d4, .slice (some ⟨g2, 0, none⟩) t.list.length d2, .int .i64 t.next], .bool t.list[k].armed]) (by simp [results, Try.results22, go_sem, F0, F1, F2]) rfl ⟨_, ret_ub E.out.symm, ?_, (K5.out.trans2 KF.out (.inr (by omega))).drew⟩
      all_goals rw [E2.out]
      all_goals exact ⟨_, _, rfl, ⟨D4, d4, rfl, ((O4.out.kept KF.out (.inr (.inr (by omega)))).kept ((Kept.refl 0 0 _).drew) (.inl (Nat.le_refl _))).wide (by omega) (Nat.le_trans (by omega : w4.heap.size ≤ V4.heap.size) zF)⟩, ⟨some ⟨g2, 0, none⟩, d2, by rw [List.length_set], by rw [List.length_set]; exact ((Q5.out.kept KF.out (.inr (.inr (by omega)))).kept ((Kept.refl 0 0 _).drew) (.inl (Nat.le_refl _))).wide (by omega) (Nat.le_trans (by omega : w2.heap.size ≤ V4.heap.size) zF)⟩⟩
end Go.Proofs.Ytnphjohmkjoefaa
