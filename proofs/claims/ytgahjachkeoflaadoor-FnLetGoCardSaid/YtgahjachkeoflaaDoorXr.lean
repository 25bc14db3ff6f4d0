/- The reference's FirstOf, ErrOf, CauseOf, LetGo and DoneBy; no condition beyond that the slices can be read. -/
import Derived.Test.YtgahjachkeoflaaDoorXq
import Derived.Deep.RegionHeld3
namespace Go.Proofs.YtgahjachkeoflaaDoor
open Go.RowKit Go.Sort

theorem own_litE (w : World) (x : Ev) : (w.alloc (.cells #[.int .i64 x.node, .int .i64 x.err, .int .i64 x.cause, .int .i64 x.time] 27)).ownsRow w.heap.size 27 4 (.slice (some ⟨w.heap.size, 0, none⟩) 1 1) 1 (evR.flat [x]) :=
  World.ownsRow_lit w #[.int .i64 x.node, .int .i64 x.err, .int .i64 x.cause, .int .i64 x.time] 1 (Nat.le_refl _) (by unfold maxLen; omega) rfl
theorem rd_litE (w : World) (x : Ev) : RdR evR (w.alloc (.cells #[.int .i64 x.node, .int .i64 x.err, .int .i64 x.cause, .int .i64 x.time] 27)) (w.heap.size + 1) (some ⟨w.heap.size, 0, none⟩) [x] := by
  have := (OwnZ.rd (R := evR) (OwnZ.of_row (own_litE w x))).2
  simpa using this
section
variable {w : World} {g : Nat} {ty : TypeId} {a b c d : Value}
theorem bq0 (h : Blk w g ty #[a, b, c, d]) : w.cell? ⟨g, 0, none⟩ = some a := h.cell 0
theorem bq1 (h : Blk w g ty #[a, b, c, d]) : w.cell? ⟨g, 1, none⟩ = some b := h.cell 1
theorem bq2 (h : Blk w g ty #[a, b, c, d]) : w.cell? ⟨g, 2, none⟩ = some c := h.cell 2
theorem bq3 (h : Blk w g ty #[a, b, c, d]) : w.cell? ⟨g, 3, none⟩ = some d := h.cell 3
end
theorem fst_no {t : List Nd} {l : List Ev} {n : Int} (h : fstO t l n = none) : fstE t l n = evZ ∧ fstB t l n = false := by simp [fstE, fstB, h]
theorem fst_yes {t : List Nd} {l : List Ev} {n : Int} {e : Ev} (h : fstO t l n = some e) : fstE t l n = e ∧ fstB t l n = true := by simp [fstE, fstB, h]
theorem blk_set4 {w : World} {g : Nat} {ty : TypeId} {a b c d : Value} (h : Blk w g ty #[a, b, c, d]) (p q r s : Value) : Blk ((((w.setCell ⟨g, 0, none⟩ p).setCell ⟨g, 1, none⟩ q).setCell ⟨g, 2, none⟩ r).setCell ⟨g, 3, none⟩ s) g ty #[p, q, r, s] := by
  have := (((h.set_ 0 p).set_ 1 q).set_ 2 r).set_ 3 s
  simpa using this
theorem kept_set4 (w : World) (g : Nat) (p q r s : Value) : Kept g (g + 1) w ((((w.setCell ⟨g, 0, none⟩ p).setCell ⟨g, 1, none⟩ q).setCell ⟨g, 2, none⟩ r).setCell ⟨g, 3, none⟩ s) :=
  ((((Kept.refl g (g + 1) w).setCell (p := ⟨g, 0, none⟩) (.inr ⟨Nat.le_refl _, Nat.lt_succ_self _⟩) _).setCell (p := ⟨g, 1, none⟩) (.inr ⟨Nat.le_refl _, Nat.lt_succ_self _⟩) _).setCell (p := ⟨g, 2, none⟩) (.inr ⟨Nat.le_refl _, Nat.lt_succ_self _⟩) _).setCell (p := ⟨g, 3, none⟩) (.inr ⟨Nat.le_refl _, Nat.lt_succ_self _⟩) _
theorem results_fst6 (tmps : Array Value) (w : World) (r : Nat) (v0 v1 v2 v3 : Value) (b : Bool) (hp : tmps[6]?.getD undef = .pointer (some ⟨r, 0, none⟩)) (hq : tmps[7]?.getD undef = .bool b) (h : Blk w r 27 #[v0, v1, v2, v3]) :
    (results Tryd.f29 tmps).run Tryd.prog w = .ok (.tuple #[.agg #[v0, v1, v2, v3], .bool b]) w := by
  have h0 := h.cell 0
  have h1 := h.cell 1
  have h2 := h.cell 2
  have h3 := h.cell 3
  simp [results, Tryd.results29, hp, hq, go_sem, h0, h1, h2, h3]
theorem first_nil (l : List Ev) : firstO [] l = none := (NoHit.none (k := l.length) (fun _ _ _ => by simp) (Nat.le_refl _)).1

set_option maxHeartbeats 1600000 in
theorem fst6_any (t : List Nd) (l : List Ev) (n : Int) (v u : Value) (w : World) (h : RdNd w w.heap.size v t) (h' : RdEv w w.heap.size u l) :
    Calls Tryd.prog 29 #[v, u, .int .i64 n] w fun e w' => e = .returned (.tuple #[.agg #[.int .i64 (fstE t l n).node, .int .i64 (fstE t l n).err, .int .i64 (fstE t l n).cause, .int .i64 (fstE t l n).time], .bool (fstB t l n)]) ∧ Kept 0 0 w w' := by
  have HT := Lib.hid h
  have H := Lib.hid h'
  obtain ⟨W, hW⟩ : ∃ W, W = w.alloc (.cells #[.int .i64 0, .int .i64 0, .int .i64 0, .int .i64 0] 27) := ⟨_, rfl⟩
  have KW : Hid (Kept 0 0 w W) := by show Kept _ _ _ _; rw [hW]; exact Kept.alloc0 _ _
  have B0 : Hid (Blk W w.heap.size 27 #[.int .i64 0, .int .i64 0, .int .i64 0, .int .i64 0]) := by show Blk _ _ _ _; rw [hW]; exact Blk.new _ _ _
  have CO := Lib.hid (events6_any t l v u W (HT.out.up KW.out) (H.out.up KW.out))
  have HW := Lib.hid hW
  clear hW h
  obtain ⟨A, c, rfl, h'⟩ := h'
  clear h'
  go_enter Tryd.func29, Tryd.ntmps29
  go_wp2_with fail
  rw [← HW.out]
  with_reducible refine CO.out.mono ?_
  rintro e w1 ⟨rfl, hk⟩
  have K1 := Lib.hid (KW.out.trans hk)
  have B1 := Lib.hid (B0.out.kept hk (.inl (Nat.le_refl _)))
  clear hk CO KW B0 HW
  cases q1 : eventsB t l
  · have E1 : Hid (fstE t l n = evZ) := (fst_no (by simp [fstO, q1])).1
    have E2 : Hid (fstB t l n = false) := (fst_no (by simp [fstO, q1])).2
    have b0 := B1.out.cell 0
    have f0 := B1.out.frozen 0
    have b1 := B1.out.cell 1
    have f1 := B1.out.frozen 1
    have b2 := B1.out.cell 2
    have f2 := B1.out.frozen 2
    have b3 := B1.out.cell 3
    have f3 := B1.out.frozen 3
    clear q1
    go_wp2_with fail
    have R := Lib.hid (blk_set4 B1.out (.int .i64 0) (.int .i64 0) (.int .i64 0) (.int .i64 0))
    have KR := Lib.hid (K1.out.trans2 (kept_set4 _ w.heap.size (.int .i64 0) (.int .i64 0) (.int .i64 0) (.int .i64 0)) (.inr (Nat.le_refl _)))
    rw [E1.out, E2.out]
    exact bodyPost_ret (results_fst6 _ _ w.heap.size _ _ _ _ false rfl rfl R.out) rfl ⟨rfl, KR.out⟩
  have Q1 := Lib.hid q1
  have LL := events_len q1
  clear q1
  go_wp2_with fail
  with_reducible refine (has5_any t n v w1 (HT.out.up K1.out)).mono ?_
  rintro e w2 ⟨rfl, hk⟩
  have K2 := Lib.hid (K1.out.trans hk)
  have B2 := Lib.hid (B1.out.kept hk (.inl (Nat.le_refl _)))
  clear hk K1 B1
  cases q2 : hasB t n
  · have EO : fstO t l n = none := by simp [fstO, chainL, q2, first_nil]
    have E1 : Hid (fstE t l n = evZ) := (fst_no EO).1
    have E2 : Hid (fstB t l n = false) := (fst_no EO).2
    have b0 := B2.out.cell 0
    have f0 := B2.out.frozen 0
    have b1 := B2.out.cell 1
    have f1 := B2.out.frozen 1
    have b2 := B2.out.cell 2
    have f2 := B2.out.frozen 2
    have b3 := B2.out.cell 3
    have f3 := B2.out.frozen 3
    clear q2 EO
    go_wp2_with fail
    have R := Lib.hid (blk_set4 B2.out (.int .i64 0) (.int .i64 0) (.int .i64 0) (.int .i64 0))
    have KR := Lib.hid (K2.out.trans2 (kept_set4 _ w.heap.size (.int .i64 0) (.int .i64 0) (.int .i64 0) (.int .i64 0)) (.inr (Nat.le_refl _)))
    rw [E1.out, E2.out]
    exact bodyPost_ret (results_fst6 _ _ w.heap.size _ _ _ _ false rfl rfl R.out) rfl ⟨rfl, KR.out⟩
  clear q2
  go_wp2_with fail
  with_reducible refine (first6_any t l n v _ w2 (HT.out.up K2.out) (H.out.up K2.out)).mono ?_
  rintro e w3 ⟨rfl, hk⟩
  have K3 := Lib.hid (K2.out.trans hk)
  have B3 := Lib.hid (B2.out.kept hk (.inl (Nat.le_refl _)))
  clear hk K2 B2
  rcases first_cases (chainL t n) l with ⟨f1, f2⟩ | ⟨m, hm, f1, f2⟩
  · have EO : fstO t l n = none := by simp [fstO, Q1.out, f1]
    have E1 : Hid (fstE t l n = evZ) := (fst_no EO).1
    have E2 : Hid (fstB t l n = false) := (fst_no EO).2
    rw [f2]
    clear EO f1 f2
    have b0 := B3.out.cell 0
    have f0 := B3.out.frozen 0
    have b1 := B3.out.cell 1
    have f1 := B3.out.frozen 1
    have b2 := B3.out.cell 2
    have f2 := B3.out.frozen 2
    have b3 := B3.out.cell 3
    have f3 := B3.out.frozen 3
    go_wp2_with fail
    have R := Lib.hid (blk_set4 B3.out (.int .i64 0) (.int .i64 0) (.int .i64 0) (.int .i64 0))
    have KR := Lib.hid (K3.out.trans2 (kept_set4 _ w.heap.size (.int .i64 0) (.int .i64 0) (.int .i64 0) (.int .i64 0)) (.inr (Nat.le_refl _)))
    rw [E1.out, E2.out]
    exact bodyPost_ret (results_fst6 _ _ w.heap.size _ _ _ _ false rfl rfl R.out) rfl ⟨rfl, KR.out⟩
  · have EO : fstO t l n = some l[m] := by simp [fstO, Q1.out, f1]
    obtain ⟨x, hx⟩ : ∃ x, x = l[m] := ⟨_, rfl⟩
    rw [← hx] at EO
    have E1 : Hid (fstE t l n = x) := (fst_yes EO).1
    have E2 : Hid (fstB t l n = true) := (fst_yes EO).2
    rw [f2]
    obtain ⟨A', c', e', s'⟩ := H.out.kept (Nat.le_refl _) K3.out (.inl (Nat.le_refl _))
    injection e' with e1 _ e2
    subst e1 e2
    obtain ⟨ad, rfl, _, c0, c1, c2, c3⟩ := s'.rd.ev hm
    rw [← hx] at c0 c1 c2 c3
    clear EO f1 f2 hx s'
    have b0 := B3.out.cell 0
    have f0 := B3.out.frozen 0
    have b1 := B3.out.cell 1
    have f1 := B3.out.frozen 1
    have b2 := B3.out.cell 2
    have f2 := B3.out.frozen 2
    have b3 := B3.out.cell 3
    have f3 := B3.out.frozen 3
    have i1 : (m : Int) < (l.length : Int) := by omega
    have g : decide ((m : Int) < 0) = false := by simp
    go_wp2_with fail
    have R := Lib.hid (blk_set4 B3.out (.int .i64 x.node) (.int .i64 x.err) (.int .i64 x.cause) (.int .i64 x.time))
    have KR := Lib.hid (K3.out.trans2 (kept_set4 _ w.heap.size (.int .i64 x.node) (.int .i64 x.err) (.int .i64 x.cause) (.int .i64 x.time)) (.inr (Nat.le_refl _)))
    rw [E1.out, E2.out]
    exact bodyPost_ret (results_fst6 _ _ w.heap.size _ _ _ _ true rfl rfl R.out) rfl ⟨rfl, KR.out⟩

set_option maxHeartbeats 800000 in
theorem err6_any (t : List Nd) (l : List Ev) (n : Int) (v u : Value) (w : World) (h : RdNd w w.heap.size v t) (h' : RdEv w w.heap.size u l) :
    Calls Tryd.prog 31 #[v, u, .int .i64 n] w fun e w' => e = .returned (.int .i64 (errI t l n)) ∧ Kept 0 0 w w' := by
  have CO := Lib.hid (fst6_any t l n v u w h h')
  clear h h'
  have E : Hid ((fstE t l n).err = errI t l n) := by show _ = _; rfl
  go_enter Tryd.func31, Tryd.ntmps31
  go_wp2_with fail
  with_reducible refine CO.out.mono ?_
  rintro e w1 ⟨rfl, hk⟩
  have K1 := Lib.hid hk
  clear hk CO
  go_wp2
  go_ret
  exact ⟨ret_int E.out, K1.out.alloc _⟩
set_option maxHeartbeats 800000 in
theorem cause6_any (t : List Nd) (l : List Ev) (n : Int) (v u : Value) (w : World) (h : RdNd w w.heap.size v t) (h' : RdEv w w.heap.size u l) :
    Calls Tryd.prog 32 #[v, u, .int .i64 n] w fun e w' => e = .returned (.int .i64 (causeI t l n)) ∧ Kept 0 0 w w' := by
  have CO := Lib.hid (fst6_any t l n v u w h h')
  clear h h'
  have E : Hid ((fstE t l n).cause = causeI t l n) := by show _ = _; rfl
  go_enter Tryd.func32, Tryd.ntmps32
  go_wp2_with fail
  with_reducible refine CO.out.mono ?_
  rintro e w1 ⟨rfl, hk⟩
  have K1 := Lib.hid hk
  clear hk CO
  go_wp2
  go_ret
  exact ⟨ret_int E.out, K1.out.alloc _⟩

theorem copy6_any (t : List Ev) (v : Value) (w : World) (B : Nat) (hB : B ≤ w.heap.size) (h : RdEv w B v t) (hn : t.length ≤ 1048576) :
    Calls Tryd.prog 49 #[v] w fun e w' => ∃ u, e = .returned u ∧ OwnEv w' w.heap.size w'.heap.size u t ∧ Kept 0 0 w w' := by
  obtain ⟨A, c, rfl, h⟩ := h
  have HS := Lib.hid evSlice
  have H := Lib.hid h.rd
  clear h
  obtain ⟨W, hW⟩ : ∃ W, W = w.alloc (.cells #[] 27) := ⟨_, rfl⟩
  have K0 : Hid (Kept 0 0 w W) := by show Kept _ _ _ _; rw [hW]; exact Kept.alloc0 _ _
  have B0 : Hid (Blk W w.heap.size 27 #[]) := by show Blk _ _ _ _; rw [hW]; exact Blk.new _ _ _
  have z0 : w.heap.size ≤ W.heap.size := K0.out.size
  have HW := Lib.hid hW
  clear hW
  go_enter Tryd.func49, Tryd.ntmps49
  go_wp2_with (at_builtin; rw [← HW.out]; refine wpList_app (R := evR) rfl (.tmp 3) (.tmp 4) rfl HS.out w.heap.size (some ⟨w.heap.size, 0, none⟩) 0 [] rfl (own_emptyZ B0.out (Nat.le_refl _)) B A c t rfl (by exact H.out.kept hB K0.out (.inl (Nat.le_refl _))) (by simp [maxLen]; omega) (by simp; omega) z0 ?_; intro D d w1 hown hgrow hat)
  have K1 := Lib.hid (K0.out.app hgrow (fun g hg => by have := (own_row_lo (own_emptyZ (size := 4) B0.out (Nat.le_refl _)) g hg).1; omega))
  have O1 := Lib.hid (OwnZ.of_row hown)
  clear hown hgrow hat
  go_ret
  exact ⟨_, rfl, ⟨D, d, rfl, O1.out⟩, K1.out⟩

set_option maxHeartbeats 6400000 in
set_option maxRecDepth 100000 in
theorem let6_any (t : List Nd) (l : List Ev) (x : Ev) (v u : Value) (w : World) (h : RdNd w w.heap.size v t) (h' : RdEv w w.heap.size u l) :
    Calls Tryd.prog 13 #[v, u, .agg #[.int .i64 x.node, .int .i64 x.err, .int .i64 x.cause, .int .i64 x.time]] w fun e w' => ∃ z, e = .returned (.tuple #[z, .bool (letB t l x)]) ∧ OwnEv w' w.heap.size w'.heap.size z (letL t l x) ∧ Kept 0 0 w w' := by
  have HT := Lib.hid h
  have H := Lib.hid h'
  obtain ⟨W, hW⟩ : ∃ W, W = w.alloc (.cells #[.int .i64 x.node, .int .i64 x.err, .int .i64 x.cause, .int .i64 x.time] 27) := ⟨_, rfl⟩
  have KW : Hid (Kept 0 0 w W) := by show Kept _ _ _ _; rw [hW]; exact Kept.alloc0 _ _
  have B0 : Hid (Blk W w.heap.size 27 #[.int .i64 x.node, .int .i64 x.err, .int .i64 x.cause, .int .i64 x.time]) := by show Blk _ _ _ _; rw [hW]; exact Blk.new _ _ _
  have CO := Lib.hid (events6_any t l v u W (HT.out.up KW.out) (H.out.up KW.out))
  have zW : w.heap.size + 1 ≤ W.heap.size := by rw [hW]; simp
  have HW := Lib.hid hW
  clear hW h
  obtain ⟨A, c, rfl, h'⟩ := h'
  clear h'
  have HS := Lib.hid evSlice
  cases q1 : eventsB t l
  · have E : Hid (letB t l x = false) := by show _ = _; simp [letB, q1]
    have EL : Hid (letL t l x = []) := by show _ = _; simp [letL, q1]
    rw [q1] at CO
    clear q1
    go_enter Tryd.func13, Tryd.ntmps13
    go_wp2_with fail
    rw [← HW.out]
    with_reducible refine CO.out.mono ?_
    rintro e w1 ⟨rfl, hk⟩
    have K1 := Lib.hid (KW.out.trans hk)
    clear hk CO
    go_wp2
    go_ret2
    rw [E.out, EL.out]
    exact ⟨_, rfl, ⟨_, 0, rfl, OwnZ.mk_ (ownsRow_lo (own_emptyZ (Blk.new w1 27 #[]) (Nat.le_refl _)) K1.out.size) (by simp)⟩, K1.out.alloc _⟩
  have L : l.length ≤ 60 := events_len q1
  have Q1 := Lib.hid q1
  rw [q1] at CO
  clear q1
  go_enter Tryd.func13, Tryd.ntmps13
  go_wp2_with fail
  rw [← HW.out]
  with_reducible refine CO.out.mono ?_
  rintro e w1 ⟨rfl, hk⟩
  have K1 := Lib.hid (KW.out.trans hk)
  have B1 := Lib.hid (B0.out.kept hk (.inl (Nat.le_refl _)))
  have z1 := K1.out.size
  have y1 := B1.out.lt
  have H1 := Lib.hid (H.out.kept (Nat.le_refl _) K1.out (.inl (Nat.le_refl _)))
  clear hk CO B0 KW HW H
  go_upto_region 3 with fail
  go_region_held3 (fun w' => w'.cell? ⟨w.heap.size, 0, none⟩ = some (.int .i64 x.node) ∧ w'.cell? ⟨w.heap.size, 1, none⟩ = some (.int .i64 x.err) ∧ w'.cell? ⟨w.heap.size, 2, none⟩ = some (.int .i64 x.cause) ∧ w'.cell? ⟨w.heap.size, 3, none⟩ = some (.int .i64 x.time))
    (first | with_reducible exact ⟨bq0 B1.out.drew, bq1 B1.out.drew, bq2 B1.out.drew, bq3 B1.out.drew⟩ | with_reducible exact ⟨bq0 (B1.out.drew.alloc (.cells #[.int .i64 x.node, .int .i64 x.err, .int .i64 x.cause, .int .i64 x.time] 27)), bq1 (B1.out.drew.alloc (.cells #[.int .i64 x.node, .int .i64 x.err, .int .i64 x.cause, .int .i64 x.time] 27)), bq2 (B1.out.drew.alloc (.cells #[.int .i64 x.node, .int .i64 x.err, .int .i64 x.cause, .int .i64 x.time] 27)), bq3 (B1.out.drew.alloc (.cells #[.int .i64 x.node, .int .i64 x.err, .int .i64 x.cause, .int .i64 x.time] 27))⟩ | with_reducible exact ⟨bq0 (B1.out.alloc (.cells #[.int .i64 x.node, .int .i64 x.err, .int .i64 x.cause, .int .i64 x.time] 27)).drew, bq1 (B1.out.alloc (.cells #[.int .i64 x.node, .int .i64 x.err, .int .i64 x.cause, .int .i64 x.time] 27)).drew, bq2 (B1.out.alloc (.cells #[.int .i64 x.node, .int .i64 x.err, .int .i64 x.cause, .int .i64 x.time] 27)).drew, bq3 (B1.out.alloc (.cells #[.int .i64 x.node, .int .i64 x.err, .int .i64 x.cause, .int .i64 x.time] 27)).drew⟩ | with_reducible exact ⟨bq0 B2, bq1 B2, bq2 B2, bq3 B2⟩ | with_reducible exact ⟨bq0 (B2.alloc (.cells #[.int .i64 x.node, .int .i64 x.err, .int .i64 x.cause, .int .i64 x.time] 27)), bq1 (B2.alloc (.cells #[.int .i64 x.node, .int .i64 x.err, .int .i64 x.cause, .int .i64 x.time] 27)), bq2 (B2.alloc (.cells #[.int .i64 x.node, .int .i64 x.err, .int .i64 x.cause, .int .i64 x.time] 27)), bq3 (B2.alloc (.cells #[.int .i64 x.node, .int .i64 x.err, .int .i64 x.cause, .int .i64 x.time] 27))⟩ | with_reducible exact ⟨bq0 B3, bq1 B3, bq2 B3, bq3 B3⟩)
    (first
      | (go_at_call 49; (with_reducible refine (copy6_any l _ w1.drew w.heap.size (by simp; omega) (H1.out.kept z1 (Kept.refl 0 0 w1).drew (.inl (Nat.le_refl _))) (by omega)).mono ?_); rintro e w2 ⟨_, rfl, ⟨D2, d2, rfl, ho⟩, hk⟩; have k2 : Kept 0 0 w1 w2 := (Kept.refl 0 0 w1).drew.trans hk; have z2 := k2.size; have B2 := B1.out.kept k2 (.inl (Nat.le_refl _)); have O2 := ho; clear hk ho)
      | (go_at_call 49; (with_reducible refine (copy6_any l _ (w1.alloc (.cells #[.int .i64 x.node, .int .i64 x.err, .int .i64 x.cause, .int .i64 x.time] 27)).drew w.heap.size (by simp; omega) (H1.out.kept z1 (Kept.alloc0 w1 (.cells #[.int .i64 x.node, .int .i64 x.err, .int .i64 x.cause, .int .i64 x.time] 27)).drew (.inl (Nat.le_refl _))) (by omega)).mono ?_); rintro e w2 ⟨_, rfl, ⟨D2, d2, rfl, ho⟩, hk⟩; have k2 : Kept 0 0 w1 w2 := (Kept.alloc0 w1 (.cells #[.int .i64 x.node, .int .i64 x.err, .int .i64 x.cause, .int .i64 x.time] 27)).drew.trans hk; have z2 := k2.size; have B2 := B1.out.kept k2 (.inl (Nat.le_refl _)); have X2 : RdR evR w2 (w1.heap.size + 1) (some ⟨w1.heap.size, 0, none⟩) [x] := ((rd_litE w1 x).kept (by simp) (Kept.refl 0 0 _).drew (.inl (Nat.le_refl _))).kept (by simp) hk (.inl (Nat.le_refl _)); have O2 := ho; clear hk ho)
      | (have _t := X2; refine step_app (R := evR) rfl (.tmp 15) (.tmp 17) rfl HS.out w1.heap.size D2 d2 l rfl (ownsRow_lo O2.1 (by simp)) (w1.heap.size + 1) (some ⟨w1.heap.size, 0, none⟩) 1 [x] rfl X2 (by simp [maxLen]; omega) (by simp; omega) z2 ?_; intro D3 d3 w3 hown hgrow hat; have k3 : Kept 0 0 w1 w3 := k2.app hgrow (fun g hg => by have := (own_row_lo O2.1 g hg).1; simp at this; omega); have B3 := B1.out.kept k3 (.inl (Nat.le_refl _)); have O3 := hown; clear hown hgrow hat)
      | (refine step_app (R := evR) rfl (.tmp 15) (.tmp 17) rfl HS.out w1.heap.size D2 d2 l rfl (row_kept (ownsRow_lo O2.1 (by simp)) (Kept.alloc0 w2 (.cells #[.int .i64 x.node, .int .i64 x.err, .int .i64 x.cause, .int .i64 x.time] 27))) (w2.heap.size + 1) (some ⟨w2.heap.size, 0, none⟩) 1 [x] rfl (rd_litE w2 x) (by simp [maxLen]; omega) (by simp; omega) (by simp; omega) ?_; intro D3 d3 w3 hown hgrow hat; have k3 : Kept 0 0 w1 w3 := (k2.alloc (.cells #[.int .i64 x.node, .int .i64 x.err, .int .i64 x.cause, .int .i64 x.time] 27)).app hgrow (fun g hg => by have := (own_row_lo O2.1 g hg).1; simp at this; omega); have B3 := B1.out.kept k3 (.inl (Nat.le_refl _)); have O3 := hown; clear hown hgrow hat)
      | fail)
  all_goals
    have K3 := Lib.hid (K1.out.trans k3)
    have z3 := k3.size
    have O4 : Hid (OwnEv w3 w1.heap.size w3.heap.size (.slice D3 (l.length + 1) d3) (l ++ [x])) := ⟨D3, d3, by simp, OwnZ.of_row O3⟩
    have H3 := Lib.hid (H1.out.kept z1 k3 (.inl (Nat.le_refl _)))
    clear k2 k3 O2 O3 B2 B3
    go_wp2_with fail
    with_reducible refine (events6_any t (l ++ [x]) v _ w3 (HT.out.up K3.out) (O4.out.rdW (Nat.le_refl _))).mono ?_
    rintro e w4 ⟨rfl, hk⟩
    have K4 := Lib.hid (K3.out.trans hk)
    have O5 := Lib.hid (O4.out.kept hk (.inl (Nat.le_refl _)))
    have H4 := Lib.hid (H3.out.kept (by omega) hk (.inl (Nat.le_refl _)))
    have z4 := hk.size
    clear hk K3 O4 H3
    have ES := events_snoc t l x
    rw [Q1.out, Bool.true_and] at ES
    rw [ES]
    clear ES
    cases q2 : mayB t l x
    · have E : Hid (letB t l x = false) := by show _ = _; simp [letB, q2]
      have EL : Hid (letL t l x = l) := by show _ = _; simp [letL, Q1.out, q2]
      clear q2
      go_wp2_with fail
      with_reducible refine (copy6_any l _ w4 w.heap.size (by omega) H4.out (by omega)).mono ?_
      rintro e w5 ⟨_, rfl, ⟨D5, d5, rfl, ho⟩, hk⟩
      have K5 := Lib.hid (K4.out.trans hk)
      have O6 := Lib.hid (ho.wide (lo' := w.heap.size) (by omega) (Nat.le_refl _))
      clear hk ho
      go_wp2
      go_ret2
      rw [E.out, EL.out]
      exact ⟨_, rfl, ⟨D5, d5, rfl, O6.out⟩, K5.out⟩
    · have E : Hid (letB t l x = true) := by show _ = _; simp [letB, Q1.out, q2]
      have EL : Hid (letL t l x = l ++ [x]) := by show _ = _; simp [letL, Q1.out, q2]
      clear q2
      go_wp2
      go_ret2
      rw [E.out, EL.out]
      exact ⟨_, rfl, O5.out.wide (by omega) z4, K4.out⟩

set_option maxHeartbeats 1600000 in
set_option maxRecDepth 100000 in
theorem done6_any (t : List Nd) (l : List Ev) (v u : Value) (w : World) (h : RdNd w w.heap.size v t) (h' : RdEv w w.heap.size u l) :
    Calls Tryd.prog 37 #[v, u] w fun e w' => ∃ z, e = .returned z ∧ OwnI w' w.heap.size w'.heap.size z (doneL t l) ∧ Kept 0 0 w w' := by
  have HT := Lib.hid h
  have H := Lib.hid h'
  obtain ⟨W, hW⟩ : ∃ W, W = w.alloc (.cells #[] 2) := ⟨_, rfl⟩
  have KW : Hid (Kept 0 0 w W) := by show Kept _ _ _ _; rw [hW]; exact Kept.alloc0 _ _
  have B0 : Hid (Blk W w.heap.size 2 #[]) := by show Blk _ _ _ _; rw [hW]; exact Blk.new _ _ _
  have CO := Lib.hid (events6_any t l v u W (HT.out.up KW.out) (H.out.up KW.out))
  have HW := Lib.hid hW
  clear hW h'
  obtain ⟨A, c, rfl, h⟩ := h
  clear h
  have HS := Lib.hid iSlice
  cases q1 : eventsB t l
  · have EL : Hid (doneL t l = []) := by show _ = _; simp [doneL, q1]
    rw [q1] at CO
    clear q1
    go_enter Tryd.func37, Tryd.ntmps37
    go_wp2_with fail
    rw [← HW.out]
    with_reducible refine CO.out.mono ?_
    rintro e w1 ⟨rfl, hk⟩
    have K1 := Lib.hid (KW.out.trans hk)
    have B1 := Lib.hid (B0.out.kept hk (.inl (Nat.le_refl _)))
    clear hk CO
    go_wp2
    go_ret
    rw [EL.out]
    exact ⟨_, rfl, ⟨_, 0, rfl, OwnZ.mk_ (own_emptyZ B1.out (Nat.le_refl _)) B1.out.lt⟩, K1.out⟩
  have L : t.length ≤ 60 := (eventsB_true.1 q1).1.len
  have EL : Hid (doneL t l = doneTo t l t.length) := by show _ = _; simp [doneL, q1]
  rw [q1] at CO
  clear q1
  go_enter Tryd.func37, Tryd.ntmps37
  go_wp2_with fail
  rw [← HW.out]
  with_reducible refine CO.out.mono ?_
  rintro e w1 ⟨rfl, hk⟩
  have K1 := Lib.hid (KW.out.trans hk)
  have B1 := Lib.hid (B0.out.kept hk (.inl (Nat.le_refl _)))
  clear hk CO B0 KW HW
  go_wp2_with fail
  go_loopw [5, 6] (fun out i wr => ∃ (k : Nat) (D : Option Addr) (d : Nat) (ks : List Int), k ≤ t.length ∧ i = .int .i64 k ∧ out = .slice D ks.length d ∧ Hid (ks = doneTo t l k) ∧ Hid (wr.ownsRow w.heap.size 2 1 (.slice D ks.length d) ks.length (iR.flat ks)) ∧ Hid (Kept 0 0 w wr)) (fun _ i _ => t.length - (intOf i).toNat)
  case atStart => exact ⟨0, some ⟨w.heap.size, 0, none⟩, 0, [], Nat.zero_le _, rfl, rfl, Lib.hid rfl, Lib.hid (own_emptyZ B1.out (Nat.le_refl _)), K1⟩
  case round =>
    clear B1 K1
    obtain ⟨k, D, d, ks, hk, rfl, rfl, HKS, HO, HK⟩ := hrel
    have z := HK.out.size
    by_cases hlt : k < t.length
    · have i1 : (k : Int) < (t.length : Int) := by omega
      have HL : ks.length ≤ 60 := by rw [HKS.out]; have := doneTo_len t l k; omega
      go_wp2_with fail
      with_reducible refine (first6_any t l k _ u wr (HT.out.up HK.out) (H.out.up HK.out)).mono ?_
      rintro e w2 ⟨rfl, hk2⟩
      have K2 := Lib.hid (HK.out.trans hk2)
      have O2 := Lib.hid (row_kept HO.out hk2)
      clear hk2 HK HO
      have z2 := K2.out.size
      rcases first_cases (chainL t k) l with ⟨f1, f2⟩ | ⟨m, hm, f1, f2⟩
      · have E : Hid (ks = doneTo t l (k + 1)) := by show _ = _; rw [doneTo_succ, f1, HKS.out]; rfl
        rw [f2]
        clear f1 f2
        go_wp2
        go_roundw
        case rel => exact ⟨k + 1, D, d, ks, by omega, by go_num, rfl, E, O2, K2⟩
        case measure => simp [intOf]; omega
      · have E : Hid (ks ++ [(k : Int)] = doneTo t l (k + 1)) := by show _ = _; rw [doneTo_succ, f1, HKS.out]; rfl
        have g : decide ((0 : Int) ≤ (m : Int)) = true := by simp
        rw [f2]
        clear f1 f2 hm
        go_wp2_with (at_builtin; refine wpList_app (R := iR) rfl (.tmp 24) (.tmp 26) rfl HS.out w.heap.size D d ks rfl (row_kept O2.out (Kept.alloc0 w2 (.cells #[.int .i64 k] 2))) (w2.heap.size + 1) (some ⟨w2.heap.size, 0, none⟩) 1 [(k : Int)] rfl (rd_litI w2 k) (by simp [maxLen]; omega) (by simp; omega) (by simp; omega) ?_; intro D1 d1 w3 hown hgrow hat)
        have K3 := Lib.hid ((K2.out.alloc (.cells #[.int .i64 k] 2)).app hgrow (fun g hg => (own_row_lo O2.out g hg).1))
        have O3 := Lib.hid hown
        clear hown hgrow hat K2 O2
        go_roundw
        case rel => exact ⟨k + 1, D1, d1, ks ++ [(k : Int)], by omega, by go_num, by simp, E, O3, K3⟩
        case measure => simp [intOf]; omega
    · go_wp2
      go_ret
      have hk' : k = t.length := by omega
      rw [EL.out, ← hk', ← HKS.out]
      exact ⟨_, rfl, ⟨D, d, rfl, OwnZ.of_row HO.out⟩, HK.out⟩
end Go.Proofs.YtgahjachkeoflaaDoor
