/- The draw of a tree, a list of events and an event from a code; nothing old is turned; condition: the code can be read and has at most 4096 bytes. -/
import Derived.Test.YtgahjachkeoflaaDoorYe
namespace Go.Proofs.YtgahjachkeoflaaDoor
open Go.RowKit Go.Sort

/-- What the draw leaves. -/
def DrawnTLE (w : World) (e : Ending) (w' : World) : Prop :=
  ∃ (vt vl : Value) (t : List Nd) (l : List Ev) (x : Ev), e = .returned (.tuple #[vt, vl, .agg #[.int .i64 x.node, .int .i64 x.err, .int .i64 x.cause, .int .i64 x.time]]) ∧ 1 ≤ t.length ∧ t.length ≤ 60 ∧ l.length ≤ 62 ∧ OwnNd w' w.heap.size w'.heap.size vt t ∧ OwnEv w' w.heap.size w'.heap.size vl l ∧ Kept 0 0 w w'
theorem results_draw6 (tmps : Array Value) (w : World) (r : Nat) (v0 v1 v2 v3 vt vl : Value) (ht : tmps[2]?.getD undef = vt) (hl : tmps[3]?.getD undef = vl) (hp : tmps[4]?.getD undef = .pointer (some ⟨r, 0, none⟩)) (h : Blk w r 27 #[v0, v1, v2, v3]) :
    (results Tryd.f11 tmps).run Tryd.prog w = .ok (.tuple #[vt, vl, .agg #[v0, v1, v2, v3]]) w := by
  have h0 := h.cell 0
  have h1 := h.cell 1
  have h2 := h.cell 2
  have h3 := h.cell 3
  simp [results, Tryd.results11, ht, hl, hp, go_sem, h0, h1, h2, h3]

set_option maxHeartbeats 6400000 in
set_option maxRecDepth 100000 in
theorem drawLetGo_any (xs : List Int) (A : Option Addr) (c : Nat) (w : World) (h : Rd (Value.int .u8) w w.heap.size A xs) (hx : ∀ x ∈ xs, 0 ≤ x ∧ x ≤ 255) (hl : xs.length ≤ 4096) :
    Calls Tryd.prog 11 #[.slice A xs.length c] w (DrawnTLE w) := by
  obtain ⟨W, hW⟩ : ∃ W, W = w.alloc (.cells #[.int .i64 0, .int .i64 0, .int .i64 0, .int .i64 0] 27) := ⟨_, rfl⟩
  have KW : Hid (Kept 0 0 w W) := by show Kept _ _ _ _; rw [hW]; exact Kept.alloc0 _ _
  have RW : Hid (Blk W w.heap.size 27 #[.int .i64 0, .int .i64 0, .int .i64 0, .int .i64 0]) := by show Blk _ _ _ _; rw [hW]; exact Blk.new _ _ _
  have zW : W.heap.size = w.heap.size + 1 := by rw [hW]; simp
  have CN := Lib.hid (new_any xs A c W (h.kept (Nat.le_refl _) KW.out (.inl (Nat.le_refl _)) |>.wide KW.out.size) hx hl)
  have HW := Lib.hid hW
  clear hW h hx
  go_enter Tryd.func11, Tryd.ntmps11
  go_wp2_with fail
  rw [← HW.out]
  with_reducible refine CN.out.mono ?_
  rintro e w1 ⟨rfl, hc, hk⟩
  obtain ⟨g, hg⟩ : ∃ g, g = W.heap.size := ⟨_, rfl⟩
  rw [← hg] at hc ⊢
  have C1 := Lib.hid hc
  have R1 := Lib.hid (RW.out.kept hk (.inl (Nat.le_refl _)))
  have K1 := Lib.hid (KW.out.trans hk)
  have gl : g < w1.heap.size := hc.lt
  have gw : w.heap.size < g := by omega
  clear hc hk CN RW KW HW hg
  go_wp2_with fail
  with_reducible refine (drawAny6_any _ _ _ _ _ C1.out).mono ?_
  rintro e w2 ⟨vt, vl, t, l, rfl, s2⟩
  obtain ⟨D, d, rfl, -⟩ := s2.tree
  obtain ⟨B, d2, rfl, -⟩ := s2.list
  have S2 := Lib.hid s2
  have R2 := Lib.hid (R1.out.kept s2.kept (by omega))
  have K2 := Lib.hid (K1.out.trans2 s2.kept (.inr (by omega)))
  have z2 := s2.kept.size
  have P1 := s2.pos
  have P2 := s2.tlen
  have P3 := s2.llen
  clear s2 C1 R1 K1 zW
  by_cases hl0 : 0 < l.length
  case neg =>
    have g1 : ¬ (0 : Int) < (l.length : Int) := by omega
    go_wp2_with fail
    with_reducible refine (drawEvent_any xs A c g t _ _ w1.heap.size w2.heap.size w2 S2.out.cur S2.out.tree gl (Nat.le_refl _) P1 P2).mono ?_
    rintro e w3 ⟨x, rfl, hc, hk⟩
    have z3 := hk.size
    obtain ⟨V, hV⟩ : ∃ V, V = w3.alloc (.cells #[.int .i64 x.node, .int .i64 x.err, .int .i64 x.cause, .int .i64 x.time] 27) := ⟨_, rfl⟩
    have k3 : Kept 0 0 w3 V := by rw [hV]; exact Kept.alloc0 _ _
    have zV : w3.heap.size < V.heap.size := by rw [hV]; simp
    have SV : Hid (EvSt w1 V g A c xs w3.heap.size w.heap.size x) := by
      refine ⟨hc.kept k3 (.inl (Nat.le_refl _)), ?_, (R2.out.kept hk (by omega)).kept k3 (.inl (Nat.le_refl _)), (S2.out.kept.trans hk).trans (k3.wide (.inl (Nat.le_refl _)))⟩
      rw [hV]; exact Blk.new _ _ _
    have OT : Hid (OwnNd V w1.heap.size w3.heap.size (.slice D t.length d) t) := ((S2.out.tree.kept hk (by omega)).wide (Nat.le_refl _) z3).kept k3 (.inl (Nat.le_refl _))
    have OL : Hid (OwnEv V w1.heap.size w3.heap.size (.slice B l.length d2) l) := ((S2.out.list.kept hk (by omega)).wide (Nat.le_refl _) z3).kept k3 (.inl (Nat.le_refl _))
    have KV := Lib.hid ((K2.out.trans2 hk (.inr (by omega))).trans k3)
    have HV := Lib.hid hV
    obtain ⟨bx, hbx⟩ : ∃ bx, bx = w3.heap.size := ⟨_, rfl⟩
    have HBX := Lib.hid hbx
    have hb1 : w1.heap.size ≤ bx := by omega
    have hb2 : w3.heap.size ≤ bx := by omega
    rw [← hbx] at SV
    clear hc hk k3 hV hbx S2 R2 K2
    go_wp2_with fail
    rw [← HV.out, ← HBX.out]
    clear HV HBX
    with_reducible refine (once_any _ _ _ _ _ _ SV.out.cur (by omega) (by omega)).mono ?_
    rintro e w4 ⟨ob, rfl, hc, hk⟩
    have S4 := Lib.hid (SV.out.draw (by omega) (by omega) hc hk)
    have O4 : Hid (OwnNd w4 w1.heap.size w3.heap.size (.slice D t.length d) t) := OT.out.kept hk (by omega)
    have L4 : Hid (OwnEv w4 w1.heap.size w3.heap.size (.slice B l.length d2) l) := OL.out.kept hk (by omega)
    have K4 := Lib.hid (KV.out.trans2 hk (.inr (by omega)))
    have z4 := hk.size
    clear hc hk SV OT OL KV
    have OT := O4
    have OL := L4
    clear O4 L4
    have nb1 : bx ≠ w.heap.size := by omega
    cases ob with
    | false =>
      have bb0 := S4.out.box.cell 0
      have bb1 := S4.out.box.cell 1
      have bb2 := S4.out.box.cell 2
      have bb3 := S4.out.box.cell 3
      have rr0 := S4.out.res.cell 0
      have rr1 := S4.out.res.cell 1
      have rr2 := S4.out.res.cell 2
      have rr3 := S4.out.res.cell 3
      have ff0 := S4.out.res.frozen 0
      have ff1 := S4.out.res.frozen 1
      have ff2 := S4.out.res.frozen 2
      have ff3 := S4.out.res.frozen 3
      go_wp2_with fail
      go_region_with fail
      go_wp2_with fail
      obtain ⟨VF, hVF⟩ : ∃ VF, VF = (((((w4.setCell ⟨w.heap.size, 0, none⟩ (.int .i64 x.node)).setCell ⟨w.heap.size, 1, none⟩ (.int .i64 x.err)).setCell ⟨w.heap.size, 2, none⟩ (.int .i64 x.cause)).setCell ⟨w.heap.size, 3, none⟩ (.int .i64 x.time))).drew := ⟨_, rfl⟩
      have k9 : Kept w.heap.size (w.heap.size + 1) w4 VF := by rw [hVF]; exact (kept_set4 w4 w.heap.size (.int .i64 x.node) (.int .i64 x.err) (.int .i64 x.cause) (.int .i64 x.time)).drew
      have BK : Hid (Blk VF w.heap.size 27 #[.int .i64 x.node, .int .i64 x.err, .int .i64 x.cause, .int .i64 x.time]) := by show Blk _ _ _ _; rw [hVF]; exact (blk_set4 S4.out.res (.int .i64 x.node) (.int .i64 x.err) (.int .i64 x.cause) (.int .i64 x.time)).drew
      have KF := Lib.hid (K4.out.trans2 k9 (.inr (Nat.le_refl _)))
      have z9 := k9.size
      have TF := Lib.hid ((OT.out.kept k9 (by omega)).wide (lo' := w.heap.size) (hi' := VF.heap.size) (by omega) (by omega))
      have LF := Lib.hid ((OL.out.kept k9 (by omega)).wide (lo' := w.heap.size) (hi' := VF.heap.size) (by omega) (by omega))
      rw [← hVF]
      exact bodyPost_ret (results_draw6 _ _ w.heap.size _ _ _ _ _ _ rfl rfl rfl BK.out) rfl ⟨_, _, t, l, ⟨x.node, x.err, x.cause, x.time⟩, rfl, P1, P2, P3, TF.out, LF.out, KF.out⟩
    | true =>
      have cc0 := S4.out.box.cell 0
      go_wp2_with fail
      with_reducible refine (from_any _ _ _ _ _ _ _ S4.out.cur (by omega) (by omega) (by omega) (by omega)).mono ?_
      rintro e w5 ⟨q, rfl, -, hc, hk⟩
      have S5 := Lib.hid (S4.out.draw (by omega) (by omega) hc hk)
      have O5 : Hid (OwnNd w5 w1.heap.size w3.heap.size (.slice D t.length d) t) := OT.out.kept hk (by omega)
      have L5 : Hid (OwnEv w5 w1.heap.size w3.heap.size (.slice B l.length d2) l) := OL.out.kept hk (by omega)
      have K5 := Lib.hid (K4.out.trans2 hk (.inr (by omega)))
      have z5 := hk.size
      clear hc hk S4 OT OL K4 cc0
      have cc0 := S5.out.box.cell 0
      have ff0 := S5.out.box.frozen 0
      have k6 : Kept bx (bx + 1) w5 (w5.setCell ⟨bx, 0, none⟩ (.int .i64 q)) := (Kept.refl _ _ _).setCell (p := ⟨bx, 0, none⟩) (.inr ⟨Nat.le_refl _, Nat.lt_succ_self _⟩) _
      have S6 := Lib.hid (S5.out.put (by omega) hb1 (by omega) 0 q ⟨q, x.err, x.cause, x.time⟩ rfl)
      have OT : Hid (OwnNd (w5.setCell ⟨bx, 0, none⟩ (.int .i64 q)) w1.heap.size w3.heap.size (.slice D t.length d) t) := O5.out.kept k6 (by omega)
      have OL : Hid (OwnEv (w5.setCell ⟨bx, 0, none⟩ (.int .i64 q)) w1.heap.size w3.heap.size (.slice B l.length d2) l) := L5.out.kept k6 (by omega)
      have K6 := Lib.hid (K5.out.trans2 k6 (.inr (by omega)))
      have z6 := k6.size
      obtain ⟨V6, hV6⟩ : ∃ V6, V6 = w5.setCell ⟨bx, 0, none⟩ (.int .i64 q) := ⟨_, rfl⟩
      rw [← hV6] at S6 OT OL K6 z6
      have HV6 := Lib.hid hV6
      clear hV6 k6 S5 O5 L5 K5
      go_upto_region 9 with fail
      rw [← HV6.out]
      clear HV6 cc0 ff0
      have bb0 := S6.out.box.cell 0
      have bb1 := S6.out.box.cell 1
      have bb2 := S6.out.box.cell 2
      have bb3 := S6.out.box.cell 3
      have rr0 := S6.out.res.cell 0
      have rr1 := S6.out.res.cell 1
      have rr2 := S6.out.res.cell 2
      have rr3 := S6.out.res.cell 3
      have ff0 := S6.out.res.frozen 0
      have ff1 := S6.out.res.frozen 1
      have ff2 := S6.out.res.frozen 2
      have ff3 := S6.out.res.frozen 3
      go_wp2_with fail
      go_region_with fail
      go_wp2_with fail
      obtain ⟨VF, hVF⟩ : ∃ VF, VF = (((((V6.setCell ⟨w.heap.size, 0, none⟩ (.int .i64 q)).setCell ⟨w.heap.size, 1, none⟩ (.int .i64 x.err)).setCell ⟨w.heap.size, 2, none⟩ (.int .i64 x.cause)).setCell ⟨w.heap.size, 3, none⟩ (.int .i64 x.time))).drew := ⟨_, rfl⟩
      have k9 : Kept w.heap.size (w.heap.size + 1) V6 VF := by rw [hVF]; exact (kept_set4 V6 w.heap.size (.int .i64 q) (.int .i64 x.err) (.int .i64 x.cause) (.int .i64 x.time)).drew
      have BK : Hid (Blk VF w.heap.size 27 #[.int .i64 q, .int .i64 x.err, .int .i64 x.cause, .int .i64 x.time]) := by show Blk _ _ _ _; rw [hVF]; exact (blk_set4 S6.out.res (.int .i64 q) (.int .i64 x.err) (.int .i64 x.cause) (.int .i64 x.time)).drew
      have KF := Lib.hid (K6.out.trans2 k9 (.inr (Nat.le_refl _)))
      have z9 := k9.size
      have TF := Lib.hid ((OT.out.kept k9 (by omega)).wide (lo' := w.heap.size) (hi' := VF.heap.size) (by omega) (by omega))
      have LF := Lib.hid ((OL.out.kept k9 (by omega)).wide (lo' := w.heap.size) (hi' := VF.heap.size) (by omega) (by omega))
      rw [← hVF]
      exact bodyPost_ret (results_draw6 _ _ w.heap.size _ _ _ _ _ _ rfl rfl rfl BK.out) rfl ⟨_, _, t, l, ⟨q, x.err, x.cause, x.time⟩, rfl, P1, P2, P3, TF.out, LF.out, KF.out⟩
  case pos =>
    have g1 : (0 : Int) < (l.length : Int) := by omega
    obtain ⟨j, hj⟩ : ∃ j, l.length = j + 1 := ⟨l.length - 1, by omega⟩
    have hjl : j < l.length := by omega
    obtain ⟨b, d3, e3, -, o3⟩ := S2.out.list.first hl0
    injection e3 with e3 _ e4
    subst e3 e4
    have c3 : w2.cell? ⟨b, j * 4 + 3, none⟩ = some (.int .i64 l[j].time) := own_at (R := evR) o3.1 hjl 3 rfl
    have g3 : (l.length : Int) - 1 = (j : Int) := by omega
    have g4 : IntKind.i64.wrap ((l.length : Int) - 1) = (j : Int) := (IntWalk.i64_in _ (by omega)).trans (by omega)
    have i1 : (j : Int) < (l.length : Int) := by omega
    have HJ := Lib.hid hj
    clear hj o3
    go_wp2_with fail
    with_reducible refine (drawEvent_any xs A c g t _ _ w1.heap.size w2.heap.size w2 S2.out.cur S2.out.tree gl (Nat.le_refl _) P1 P2).mono ?_
    rintro e w3 ⟨x, rfl, hc, hk⟩
    have z3 := hk.size
    obtain ⟨V, hV⟩ : ∃ V, V = w3.alloc (.cells #[.int .i64 x.node, .int .i64 x.err, .int .i64 x.cause, .int .i64 x.time] 27) := ⟨_, rfl⟩
    have k3 : Kept 0 0 w3 V := by rw [hV]; exact Kept.alloc0 _ _
    have zV : w3.heap.size < V.heap.size := by rw [hV]; simp
    have SV : Hid (EvSt w1 V g A c xs w3.heap.size w.heap.size x) := by
      refine ⟨hc.kept k3 (.inl (Nat.le_refl _)), ?_, (R2.out.kept hk (by omega)).kept k3 (.inl (Nat.le_refl _)), (S2.out.kept.trans hk).trans (k3.wide (.inl (Nat.le_refl _)))⟩
      rw [hV]; exact Blk.new _ _ _
    have OT : Hid (OwnNd V w1.heap.size w3.heap.size (.slice D t.length d) t) := ((S2.out.tree.kept hk (by omega)).wide (Nat.le_refl _) z3).kept k3 (.inl (Nat.le_refl _))
    have OL : Hid (OwnEv V w1.heap.size w3.heap.size (.slice (some ⟨b, 0, none⟩) l.length d2) l) := ((S2.out.list.kept hk (by omega)).wide (Nat.le_refl _) z3).kept k3 (.inl (Nat.le_refl _))
    have KV := Lib.hid ((K2.out.trans2 hk (.inr (by omega))).trans k3)
    have HV := Lib.hid hV
    obtain ⟨bx, hbx⟩ : ∃ bx, bx = w3.heap.size := ⟨_, rfl⟩
    have HBX := Lib.hid hbx
    have hb1 : w1.heap.size ≤ bx := by omega
    have hb2 : w3.heap.size ≤ bx := by omega
    rw [← hbx] at SV
    clear hc hk k3 hV hbx S2 R2 K2
    go_wp2_with fail
    rw [← HV.out, ← HBX.out]
    clear HV HBX
    with_reducible refine (once_any _ _ _ _ _ _ SV.out.cur (by omega) (by omega)).mono ?_
    rintro e w4 ⟨ob, rfl, hc, hk⟩
    have S4 := Lib.hid (SV.out.draw (by omega) (by omega) hc hk)
    have O4 : Hid (OwnNd w4 w1.heap.size w3.heap.size (.slice D t.length d) t) := OT.out.kept hk (by omega)
    have L4 : Hid (OwnEv w4 w1.heap.size w3.heap.size (.slice (some ⟨b, 0, none⟩) l.length d2) l) := OL.out.kept hk (by omega)
    have K4 := Lib.hid (KV.out.trans2 hk (.inr (by omega)))
    have z4 := hk.size
    clear hc hk SV OT OL KV
    have OT := O4
    have OL := L4
    clear O4 L4
    have nb1 : bx ≠ w.heap.size := by omega
    cases ob with
    | false =>
      have bb0 := S4.out.box.cell 0
      have bb1 := S4.out.box.cell 1
      have bb2 := S4.out.box.cell 2
      have bb3 := S4.out.box.cell 3
      have rr0 := S4.out.res.cell 0
      have rr1 := S4.out.res.cell 1
      have rr2 := S4.out.res.cell 2
      have rr3 := S4.out.res.cell 3
      have ff0 := S4.out.res.frozen 0
      have ff1 := S4.out.res.frozen 1
      have ff2 := S4.out.res.frozen 2
      have ff3 := S4.out.res.frozen 3
      go_wp2_with fail
      go_region_with fail
      go_wp2_with fail
      obtain ⟨VF, hVF⟩ : ∃ VF, VF = (((((w4.setCell ⟨w.heap.size, 0, none⟩ (.int .i64 x.node)).setCell ⟨w.heap.size, 1, none⟩ (.int .i64 x.err)).setCell ⟨w.heap.size, 2, none⟩ (.int .i64 x.cause)).setCell ⟨w.heap.size, 3, none⟩ (.int .i64 x.time))).drew := ⟨_, rfl⟩
      have k9 : Kept w.heap.size (w.heap.size + 1) w4 VF := by rw [hVF]; exact (kept_set4 w4 w.heap.size (.int .i64 x.node) (.int .i64 x.err) (.int .i64 x.cause) (.int .i64 x.time)).drew
      have BK : Hid (Blk VF w.heap.size 27 #[.int .i64 x.node, .int .i64 x.err, .int .i64 x.cause, .int .i64 x.time]) := by show Blk _ _ _ _; rw [hVF]; exact (blk_set4 S4.out.res (.int .i64 x.node) (.int .i64 x.err) (.int .i64 x.cause) (.int .i64 x.time)).drew
      have KF := Lib.hid (K4.out.trans2 k9 (.inr (Nat.le_refl _)))
      have z9 := k9.size
      have TF := Lib.hid ((OT.out.kept k9 (by omega)).wide (lo' := w.heap.size) (hi' := VF.heap.size) (by omega) (by omega))
      have LF := Lib.hid ((OL.out.kept k9 (by omega)).wide (lo' := w.heap.size) (hi' := VF.heap.size) (by omega) (by omega))
      rw [← hVF]
      exact bodyPost_ret (results_draw6 _ _ w.heap.size _ _ _ _ _ _ rfl rfl rfl BK.out) rfl ⟨_, _, t, l, ⟨x.node, x.err, x.cause, x.time⟩, rfl, P1, P2, P3, TF.out, LF.out, KF.out⟩
    | true =>
      have cc0 := S4.out.box.cell 0
      go_wp2_with fail
      with_reducible refine (from_any _ _ _ _ _ _ _ S4.out.cur (by omega) (by omega) (by omega) (by omega)).mono ?_
      rintro e w5 ⟨q, rfl, -, hc, hk⟩
      have S5 := Lib.hid (S4.out.draw (by omega) (by omega) hc hk)
      have O5 : Hid (OwnNd w5 w1.heap.size w3.heap.size (.slice D t.length d) t) := OT.out.kept hk (by omega)
      have L5 : Hid (OwnEv w5 w1.heap.size w3.heap.size (.slice (some ⟨b, 0, none⟩) l.length d2) l) := OL.out.kept hk (by omega)
      have K5 := Lib.hid (K4.out.trans2 hk (.inr (by omega)))
      have z5 := hk.size
      clear hc hk S4 OT OL K4 cc0
      have cc0 := S5.out.box.cell 0
      have ff0 := S5.out.box.frozen 0
      have k6 : Kept bx (bx + 1) w5 (w5.setCell ⟨bx, 0, none⟩ (.int .i64 q)) := (Kept.refl _ _ _).setCell (p := ⟨bx, 0, none⟩) (.inr ⟨Nat.le_refl _, Nat.lt_succ_self _⟩) _
      have S6 := Lib.hid (S5.out.put (by omega) hb1 (by omega) 0 q ⟨q, x.err, x.cause, x.time⟩ rfl)
      have OT : Hid (OwnNd (w5.setCell ⟨bx, 0, none⟩ (.int .i64 q)) w1.heap.size w3.heap.size (.slice D t.length d) t) := O5.out.kept k6 (by omega)
      have OL : Hid (OwnEv (w5.setCell ⟨bx, 0, none⟩ (.int .i64 q)) w1.heap.size w3.heap.size (.slice (some ⟨b, 0, none⟩) l.length d2) l) := L5.out.kept k6 (by omega)
      have K6 := Lib.hid (K5.out.trans2 k6 (.inr (by omega)))
      have z6 := k6.size
      obtain ⟨V6, hV6⟩ : ∃ V6, V6 = w5.setCell ⟨bx, 0, none⟩ (.int .i64 q) := ⟨_, rfl⟩
      rw [← hV6] at S6 OT OL K6 z6
      have HV6 := Lib.hid hV6
      clear hV6 k6 S5 O5 L5 K5
      go_upto_region 9 with fail
      rw [← HV6.out]
      clear HV6 cc0 ff0
      have bb0 := S6.out.box.cell 0
      have bb1 := S6.out.box.cell 1
      have bb2 := S6.out.box.cell 2
      have bb3 := S6.out.box.cell 3
      have rr0 := S6.out.res.cell 0
      have rr1 := S6.out.res.cell 1
      have rr2 := S6.out.res.cell 2
      have rr3 := S6.out.res.cell 3
      have ff0 := S6.out.res.frozen 0
      have ff1 := S6.out.res.frozen 1
      have ff2 := S6.out.res.frozen 2
      have ff3 := S6.out.res.frozen 3
      go_wp2_with fail
      go_region_with fail
      go_wp2_with fail
      obtain ⟨VF, hVF⟩ : ∃ VF, VF = (((((V6.setCell ⟨w.heap.size, 0, none⟩ (.int .i64 q)).setCell ⟨w.heap.size, 1, none⟩ (.int .i64 x.err)).setCell ⟨w.heap.size, 2, none⟩ (.int .i64 x.cause)).setCell ⟨w.heap.size, 3, none⟩ (.int .i64 x.time))).drew := ⟨_, rfl⟩
      have k9 : Kept w.heap.size (w.heap.size + 1) V6 VF := by rw [hVF]; exact (kept_set4 V6 w.heap.size (.int .i64 q) (.int .i64 x.err) (.int .i64 x.cause) (.int .i64 x.time)).drew
      have BK : Hid (Blk VF w.heap.size 27 #[.int .i64 q, .int .i64 x.err, .int .i64 x.cause, .int .i64 x.time]) := by show Blk _ _ _ _; rw [hVF]; exact (blk_set4 S6.out.res (.int .i64 q) (.int .i64 x.err) (.int .i64 x.cause) (.int .i64 x.time)).drew
      have KF := Lib.hid (K6.out.trans2 k9 (.inr (Nat.le_refl _)))
      have z9 := k9.size
      have TF := Lib.hid ((OT.out.kept k9 (by omega)).wide (lo' := w.heap.size) (hi' := VF.heap.size) (by omega) (by omega))
      have LF := Lib.hid ((OL.out.kept k9 (by omega)).wide (lo' := w.heap.size) (hi' := VF.heap.size) (by omega) (by omega))
      rw [← hVF]
      exact bodyPost_ret (results_draw6 _ _ w.heap.size _ _ _ _ _ _ rfl rfl rfl BK.out) rfl ⟨_, _, t, l, ⟨q, x.err, x.cause, x.time⟩, rfl, P1, P2, P3, TF.out, LF.out, KF.out⟩
end Go.Proofs.YtgahjachkeoflaaDoor
