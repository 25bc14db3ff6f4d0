/- The draws of tasks: each returns a task and turns nothing old but the cursor; condition: the code can be read and has at most 4096 bytes. -/
import Derived.Test.YtfpnpjpcjbndoaaHg
import Derived.Test.YtfpnpjpcjbndoaaHd
import Derived.Deep.RegionLaw
namespace Go.Proofs.Ytfpnpjpcjbndoaa
open Go.RowKit Go.Sort

/-- What a draw of a task leaves. -/
def DrawnT (g : Nat) (A : Option Addr) (c : Nat) (xs : List Int) (w : World) (e : Ending) (w' : World) : Prop :=
  ∃ t : Tk, e = .returned (.agg #[.int .i64 t.prog, .int .i64 t.pc, .int .i64 t.st, .int .i64 t.why, .int .i64 t.what, .int .i64 t.timer, .int .i64 t.reg, .int .i64 t.grp, .int .i64 t.err]) ∧ Cur w' g A c xs ∧ Kept g (g + 1) w w'
/-- A draw of a task under way: the task in a box of its own, the result's box. -/
structure TkS (w wr : World) (g : Nat) (A : Option Addr) (c : Nat) (xs : List Int) (b r : Nat) (cs : Array Value) : Prop where
  box : Blk wr b 35 cs
  res : Blk wr r 35 #[.int .i64 0, .int .i64 0, .int .i64 0, .int .i64 0, .int .i64 0, .int .i64 0, .int .i64 0, .int .i64 0, .int .i64 0]
  cur : Cur wr g A c xs
  kept : Kept g (g + 1) w wr
abbrev TkSt (w wr : World) (g : Nat) (A : Option Addr) (c : Nat) (xs : List Int) (b r : Nat) (t : Tk) : Prop := TkS w wr g A c xs b r #[.int .i64 t.prog, .int .i64 t.pc, .int .i64 t.st, .int .i64 t.why, .int .i64 t.what, .int .i64 t.timer, .int .i64 t.reg, .int .i64 t.grp, .int .i64 t.err]
section
variable {w wr wr' : World} {g c b r : Nat} {A : Option Addr} {xs : List Int} {cs : Array Value} {t : Tk}
theorem TkS.draw (h : TkS w wr g A c xs b r cs) (hb : g ≠ b) (hr : g ≠ r) (hc : Cur wr' g A c xs) (hk : Kept g (g + 1) wr wr') : TkS w wr' g A c xs b r cs :=
  ⟨h.box.kept hk (by omega), h.res.kept hk (by omega), hc, h.kept.trans hk⟩
theorem TkS.quiet (h : TkS w wr g A c xs b r cs) (hk : Kept 0 0 wr wr') : TkS w wr' g A c xs b r cs :=
  ⟨h.box.kept hk (.inl (Nat.le_refl _)), h.res.kept hk (.inl (Nat.le_refl _)), h.cur.kept hk (.inl (Nat.le_refl _)), h.kept.trans2 hk (.inl (Nat.zero_le _))⟩
theorem TkS.set_ (h : TkS w wr g A c xs b r cs) (hg : g < b) (hb : w.heap.size ≤ b) (hr : r ≠ b) (i : Nat) (v : Value) : TkS w (wr.setCell ⟨b, i, none⟩ v) g A c xs b r (cs.setIfInBounds i v) := by
  have hk : Kept b (b + 1) wr (wr.setCell ⟨b, i, none⟩ v) := Kept.setCell (Kept.refl b (b + 1) wr) (p := ⟨b, i, none⟩) (.inr ⟨Nat.le_refl _, Nat.lt_succ_self _⟩) _
  exact ⟨h.box.set_ i _, h.res.far hr _, h.cur.kept hk (.inr (by omega)), h.kept.setCell (.inl hb) _⟩
theorem TkS.put1 (h : TkSt w wr g A c xs b r t) (hg : g < b) (hb : w.heap.size ≤ b) (hr : r ≠ b) (i : Nat) (hi : i < 9) (q : Int) : ∃ y, Hid (TkSt w (wr.setCell ⟨b, i, none⟩ (.int .i64 q)) g A c xs b r y) := by
  have s := h.set_ hg hb hr i (.int .i64 q)
  rcases (by omega : i = 0 ∨ i = 1 ∨ i = 2 ∨ i = 3 ∨ i = 4 ∨ i = 5 ∨ i = 6 ∨ i = 7 ∨ i = 8) with rfl | rfl | rfl | rfl | rfl | rfl | rfl | rfl | rfl
  · exact ⟨⟨q, t.pc, t.st, t.why, t.what, t.timer, t.reg, t.grp, t.err⟩, s⟩
  · exact ⟨⟨t.prog, q, t.st, t.why, t.what, t.timer, t.reg, t.grp, t.err⟩, s⟩
  · exact ⟨⟨t.prog, t.pc, q, t.why, t.what, t.timer, t.reg, t.grp, t.err⟩, s⟩
  · exact ⟨⟨t.prog, t.pc, t.st, q, t.what, t.timer, t.reg, t.grp, t.err⟩, s⟩
  · exact ⟨⟨t.prog, t.pc, t.st, t.why, q, t.timer, t.reg, t.grp, t.err⟩, s⟩
  · exact ⟨⟨t.prog, t.pc, t.st, t.why, t.what, q, t.reg, t.grp, t.err⟩, s⟩
  · exact ⟨⟨t.prog, t.pc, t.st, t.why, t.what, t.timer, q, t.grp, t.err⟩, s⟩
  · exact ⟨⟨t.prog, t.pc, t.st, t.why, t.what, t.timer, t.reg, q, t.err⟩, s⟩
  · exact ⟨⟨t.prog, t.pc, t.st, t.why, t.what, t.timer, t.reg, t.grp, q⟩, s⟩
theorem TkS.put9 {u0 u1 u2 u3 u4 u5 u6 u7 u8 : Value} (h : TkS w wr g A c xs b r #[u0, u1, u2, u3, u4, u5, u6, u7, u8]) (hg : g < b) (hb : w.heap.size ≤ b) (hr : r ≠ b) (v0 v1 v2 v3 v4 v5 v6 v7 v8 : Value) :
    TkS w (((((((((wr.setCell ⟨b, 0, none⟩ v0).setCell ⟨b, 1, none⟩ v1).setCell ⟨b, 2, none⟩ v2).setCell ⟨b, 3, none⟩ v3).setCell ⟨b, 4, none⟩ v4).setCell ⟨b, 5, none⟩ v5).setCell ⟨b, 6, none⟩ v6).setCell ⟨b, 7, none⟩ v7).setCell ⟨b, 8, none⟩ v8) g A c xs b r #[v0, v1, v2, v3, v4, v5, v6, v7, v8] := by
  have s0 : TkS w (wr.setCell ⟨b, 0, none⟩ v0) g A c xs b r #[v0, u1, u2, u3, u4, u5, u6, u7, u8] := h.set_ hg hb hr 0 v0
  generalize wr.setCell ⟨b, 0, none⟩ v0 = w1 at s0 ⊢
  have s1 : TkS w (w1.setCell ⟨b, 1, none⟩ v1) g A c xs b r #[v0, v1, u2, u3, u4, u5, u6, u7, u8] := s0.set_ hg hb hr 1 v1
  generalize w1.setCell ⟨b, 1, none⟩ v1 = w2 at s1 ⊢
  have s2 : TkS w (w2.setCell ⟨b, 2, none⟩ v2) g A c xs b r #[v0, v1, v2, u3, u4, u5, u6, u7, u8] := s1.set_ hg hb hr 2 v2
  generalize w2.setCell ⟨b, 2, none⟩ v2 = w3 at s2 ⊢
  have s3 : TkS w (w3.setCell ⟨b, 3, none⟩ v3) g A c xs b r #[v0, v1, v2, v3, u4, u5, u6, u7, u8] := s2.set_ hg hb hr 3 v3
  generalize w3.setCell ⟨b, 3, none⟩ v3 = w4 at s3 ⊢
  have s4 : TkS w (w4.setCell ⟨b, 4, none⟩ v4) g A c xs b r #[v0, v1, v2, v3, v4, u5, u6, u7, u8] := s3.set_ hg hb hr 4 v4
  generalize w4.setCell ⟨b, 4, none⟩ v4 = w5 at s4 ⊢
  have s5 : TkS w (w5.setCell ⟨b, 5, none⟩ v5) g A c xs b r #[v0, v1, v2, v3, v4, v5, u6, u7, u8] := s4.set_ hg hb hr 5 v5
  generalize w5.setCell ⟨b, 5, none⟩ v5 = w6 at s5 ⊢
  have s6 : TkS w (w6.setCell ⟨b, 6, none⟩ v6) g A c xs b r #[v0, v1, v2, v3, v4, v5, v6, u7, u8] := s5.set_ hg hb hr 6 v6
  generalize w6.setCell ⟨b, 6, none⟩ v6 = w7 at s6 ⊢
  have s7 : TkS w (w7.setCell ⟨b, 7, none⟩ v7) g A c xs b r #[v0, v1, v2, v3, v4, v5, v6, v7, u8] := s6.set_ hg hb hr 7 v7
  generalize w7.setCell ⟨b, 7, none⟩ v7 = w8 at s7 ⊢
  have s8 : TkS w (w8.setCell ⟨b, 8, none⟩ v8) g A c xs b r #[v0, v1, v2, v3, v4, v5, v6, v7, v8] := s7.set_ hg hb hr 8 v8
  exact s8
theorem fin9 (h : TkS w wr g A c xs b r cs) (hg : g < r) (hr : w.heap.size ≤ r) (v0 v1 v2 v3 v4 v5 v6 v7 v8 : Value) :
    Cur (((((((((wr.setCell ⟨r, 0, none⟩ v0).setCell ⟨r, 1, none⟩ v1).setCell ⟨r, 2, none⟩ v2).setCell ⟨r, 3, none⟩ v3).setCell ⟨r, 4, none⟩ v4).setCell ⟨r, 5, none⟩ v5).setCell ⟨r, 6, none⟩ v6).setCell ⟨r, 7, none⟩ v7).setCell ⟨r, 8, none⟩ v8) g A c xs ∧ Kept g (g + 1) w (((((((((wr.setCell ⟨r, 0, none⟩ v0).setCell ⟨r, 1, none⟩ v1).setCell ⟨r, 2, none⟩ v2).setCell ⟨r, 3, none⟩ v3).setCell ⟨r, 4, none⟩ v4).setCell ⟨r, 5, none⟩ v5).setCell ⟨r, 6, none⟩ v6).setCell ⟨r, 7, none⟩ v7).setCell ⟨r, 8, none⟩ v8) ∧ Blk (((((((((wr.setCell ⟨r, 0, none⟩ v0).setCell ⟨r, 1, none⟩ v1).setCell ⟨r, 2, none⟩ v2).setCell ⟨r, 3, none⟩ v3).setCell ⟨r, 4, none⟩ v4).setCell ⟨r, 5, none⟩ v5).setCell ⟨r, 6, none⟩ v6).setCell ⟨r, 7, none⟩ v7).setCell ⟨r, 8, none⟩ v8) r 35 #[v0, v1, v2, v3, v4, v5, v6, v7, v8] := by
  have b0 : Blk (wr.setCell ⟨r, 0, none⟩ v0) r 35 #[v0, .int .i64 0, .int .i64 0, .int .i64 0, .int .i64 0, .int .i64 0, .int .i64 0, .int .i64 0, .int .i64 0] := h.res.set_ 0 v0
  have k0 : Kept g (g + 1) w (wr.setCell ⟨r, 0, none⟩ v0) := h.kept.setCell (.inl hr) v0
  have c0 : Cur (wr.setCell ⟨r, 0, none⟩ v0) g A c xs := h.cur.kept (Kept.setCell (Kept.refl r (r + 1) wr) (p := ⟨r, 0, none⟩) (.inr ⟨Nat.le_refl _, Nat.lt_succ_self _⟩) v0) (.inr (by omega))
  generalize wr.setCell ⟨r, 0, none⟩ v0 = w1 at b0 k0 c0 ⊢
  have b1 : Blk (w1.setCell ⟨r, 1, none⟩ v1) r 35 #[v0, v1, .int .i64 0, .int .i64 0, .int .i64 0, .int .i64 0, .int .i64 0, .int .i64 0, .int .i64 0] := b0.set_ 1 v1
  have k1 : Kept g (g + 1) w (w1.setCell ⟨r, 1, none⟩ v1) := k0.setCell (.inl hr) v1
  have c1 : Cur (w1.setCell ⟨r, 1, none⟩ v1) g A c xs := c0.kept (Kept.setCell (Kept.refl r (r + 1) w1) (p := ⟨r, 1, none⟩) (.inr ⟨Nat.le_refl _, Nat.lt_succ_self _⟩) v1) (.inr (by omega))
  generalize w1.setCell ⟨r, 1, none⟩ v1 = w2 at b1 k1 c1 ⊢
  have b2 : Blk (w2.setCell ⟨r, 2, none⟩ v2) r 35 #[v0, v1, v2, .int .i64 0, .int .i64 0, .int .i64 0, .int .i64 0, .int .i64 0, .int .i64 0] := b1.set_ 2 v2
  have k2 : Kept g (g + 1) w (w2.setCell ⟨r, 2, none⟩ v2) := k1.setCell (.inl hr) v2
  have c2 : Cur (w2.setCell ⟨r, 2, none⟩ v2) g A c xs := c1.kept (Kept.setCell (Kept.refl r (r + 1) w2) (p := ⟨r, 2, none⟩) (.inr ⟨Nat.le_refl _, Nat.lt_succ_self _⟩) v2) (.inr (by omega))
  generalize w2.setCell ⟨r, 2, none⟩ v2 = w3 at b2 k2 c2 ⊢
  have b3 : Blk (w3.setCell ⟨r, 3, none⟩ v3) r 35 #[v0, v1, v2, v3, .int .i64 0, .int .i64 0, .int .i64 0, .int .i64 0, .int .i64 0] := b2.set_ 3 v3
  have k3 : Kept g (g + 1) w (w3.setCell ⟨r, 3, none⟩ v3) := k2.setCell (.inl hr) v3
  have c3 : Cur (w3.setCell ⟨r, 3, none⟩ v3) g A c xs := c2.kept (Kept.setCell (Kept.refl r (r + 1) w3) (p := ⟨r, 3, none⟩) (.inr ⟨Nat.le_refl _, Nat.lt_succ_self _⟩) v3) (.inr (by omega))
  generalize w3.setCell ⟨r, 3, none⟩ v3 = w4 at b3 k3 c3 ⊢
  have b4 : Blk (w4.setCell ⟨r, 4, none⟩ v4) r 35 #[v0, v1, v2, v3, v4, .int .i64 0, .int .i64 0, .int .i64 0, .int .i64 0] := b3.set_ 4 v4
  have k4 : Kept g (g + 1) w (w4.setCell ⟨r, 4, none⟩ v4) := k3.setCell (.inl hr) v4
  have c4 : Cur (w4.setCell ⟨r, 4, none⟩ v4) g A c xs := c3.kept (Kept.setCell (Kept.refl r (r + 1) w4) (p := ⟨r, 4, none⟩) (.inr ⟨Nat.le_refl _, Nat.lt_succ_self _⟩) v4) (.inr (by omega))
  generalize w4.setCell ⟨r, 4, none⟩ v4 = w5 at b4 k4 c4 ⊢
  have b5 : Blk (w5.setCell ⟨r, 5, none⟩ v5) r 35 #[v0, v1, v2, v3, v4, v5, .int .i64 0, .int .i64 0, .int .i64 0] := b4.set_ 5 v5
  have k5 : Kept g (g + 1) w (w5.setCell ⟨r, 5, none⟩ v5) := k4.setCell (.inl hr) v5
  have c5 : Cur (w5.setCell ⟨r, 5, none⟩ v5) g A c xs := c4.kept (Kept.setCell (Kept.refl r (r + 1) w5) (p := ⟨r, 5, none⟩) (.inr ⟨Nat.le_refl _, Nat.lt_succ_self _⟩) v5) (.inr (by omega))
  generalize w5.setCell ⟨r, 5, none⟩ v5 = w6 at b5 k5 c5 ⊢
  have b6 : Blk (w6.setCell ⟨r, 6, none⟩ v6) r 35 #[v0, v1, v2, v3, v4, v5, v6, .int .i64 0, .int .i64 0] := b5.set_ 6 v6
  have k6 : Kept g (g + 1) w (w6.setCell ⟨r, 6, none⟩ v6) := k5.setCell (.inl hr) v6
  have c6 : Cur (w6.setCell ⟨r, 6, none⟩ v6) g A c xs := c5.kept (Kept.setCell (Kept.refl r (r + 1) w6) (p := ⟨r, 6, none⟩) (.inr ⟨Nat.le_refl _, Nat.lt_succ_self _⟩) v6) (.inr (by omega))
  generalize w6.setCell ⟨r, 6, none⟩ v6 = w7 at b6 k6 c6 ⊢
  have b7 : Blk (w7.setCell ⟨r, 7, none⟩ v7) r 35 #[v0, v1, v2, v3, v4, v5, v6, v7, .int .i64 0] := b6.set_ 7 v7
  have k7 : Kept g (g + 1) w (w7.setCell ⟨r, 7, none⟩ v7) := k6.setCell (.inl hr) v7
  have c7 : Cur (w7.setCell ⟨r, 7, none⟩ v7) g A c xs := c6.kept (Kept.setCell (Kept.refl r (r + 1) w7) (p := ⟨r, 7, none⟩) (.inr ⟨Nat.le_refl _, Nat.lt_succ_self _⟩) v7) (.inr (by omega))
  generalize w7.setCell ⟨r, 7, none⟩ v7 = w8 at b7 k7 c7 ⊢
  have b8 : Blk (w8.setCell ⟨r, 8, none⟩ v8) r 35 #[v0, v1, v2, v3, v4, v5, v6, v7, v8] := b7.set_ 8 v8
  have k8 : Kept g (g + 1) w (w8.setCell ⟨r, 8, none⟩ v8) := k7.setCell (.inl hr) v8
  have c8 : Cur (w8.setCell ⟨r, 8, none⟩ v8) g A c xs := c7.kept (Kept.setCell (Kept.refl r (r + 1) w8) (p := ⟨r, 8, none⟩) (.inr ⟨Nat.le_refl _, Nat.lt_succ_self _⟩) v8) (.inr (by omega))
  exact ⟨c8, k8, b8⟩
end
theorem results_l10Draw (tmps : Array Value) (w : World) (r : Nat) (v0 v1 v2 v3 v4 v5 v6 v7 v8 : Value) (hp : tmps[2]?.getD undef = .pointer (some ⟨r, 0, none⟩)) (h : Blk w r 35 #[v0, v1, v2, v3, v4, v5, v6, v7, v8]) :
    (results Try.f57 tmps).run Try.prog w = .ok (.agg #[v0, v1, v2, v3, v4, v5, v6, v7, v8]) w := by
  obtain ⟨h0, h1, h2, h3, h4, h5, h6, h7, h8⟩ := h.nine
  simp [results, Try.results57, hp, go_sem, h0, h1, h2, h3, h4, h5, h6, h7, h8]
set_option maxHeartbeats 6400000 in
theorem draw10_any (xs : List Int) (A : Option Addr) (c g : Nat) (w : World) (h : Cur w g A c xs) :
    Calls Try.prog 57 #[.pointer (some ⟨g, 0, none⟩)] w (DrawnT g A c xs w) := by
  have hgw := h.lt
  obtain ⟨W, hW⟩ : ∃ W, W = w.alloc (.cells #[.int .i64 0, .int .i64 0, .int .i64 0, .int .i64 0, .int .i64 0, .int .i64 0, .int .i64 0, .int .i64 0, .int .i64 0] 35) := ⟨_, rfl⟩
  have kW : Kept 0 0 w W := by rw [hW]; exact Kept.alloc0 _ _
  have C0 := Lib.hid (h.kept kW (.inl (Nat.le_refl _)))
  have B0 : Hid (Blk W w.heap.size 35 #[.int .i64 0, .int .i64 0, .int .i64 0, .int .i64 0, .int .i64 0, .int .i64 0, .int .i64 0, .int .i64 0, .int .i64 0]) := by show Blk _ _ _ _; rw [hW]; exact Blk.new _ _ _
  have K0 : Hid (Kept g (g + 1) w W) := kW.wide (.inl (Nat.le_refl _))
  have zW : W.heap.size = w.heap.size + 1 := by rw [hW]; exact size_alloc _ _
  clear h kW
  go_enter Try.func57, Try.ntmps57
  go_wp2_with fail
  rw [← hW]
  clear hW
  with_reducible refine (below_any _ _ _ _ _ _ C0.out (by omega) (by omega)).mono ?_
  rintro e w1 ⟨p, rfl, -, hc, hk⟩
  have C1 := Lib.hid hc
  have B1 := Lib.hid (B0.out.kept hk (by omega))
  have K1 := Lib.hid (K0.out.trans hk)
  have z1 := hk.size
  clear hc hk C0 B0 K0
  go_wp2_with fail
  with_reducible refine (from_any _ _ _ _ _ _ _ C1.out (by omega) (by omega) (by omega) (by omega)).mono ?_
  rintro e w2 ⟨q, rfl, -, hc, hk⟩
  have C2 := Lib.hid hc
  have B2 := Lib.hid (B1.out.kept hk (by omega))
  have K2 := Lib.hid (K1.out.trans hk)
  have z2 := hk.size
  clear hc hk C1 B1 K1
  go_wp2_with fail
  with_reducible refine (newTask_any p q _).mono ?_
  rintro e w3 ⟨rfl, hk⟩
  obtain ⟨y, hy⟩ : ∃ y, y = newT p q := ⟨_, rfl⟩
  rw [← hy]
  clear hy
  have C3 := Lib.hid (C2.out.kept hk (.inl (Nat.le_refl _)))
  have B3 := Lib.hid (B2.out.kept hk (.inl (Nat.le_refl _)))
  have K3 := Lib.hid (K2.out.trans2 hk (.inl (Nat.zero_le _)))
  have z3 := hk.size
  clear hk C2 B2 K2
  obtain ⟨U, hU⟩ : ∃ U, U = w3.alloc (.cells #[.int .i64 y.prog, .int .i64 y.pc, .int .i64 y.st, .int .i64 y.why, .int .i64 y.what, .int .i64 y.timer, .int .i64 y.reg, .int .i64 y.grp, .int .i64 y.err] 35) := ⟨_, rfl⟩
  obtain ⟨bx, hbx⟩ : ∃ bx, bx = w3.heap.size := ⟨_, rfl⟩
  have kU : Kept 0 0 w3 U := by rw [hU]; exact Kept.alloc0 _ _
  have S : Hid (TkSt w U g A c xs bx w.heap.size y) := by
    refine ⟨?_, B3.out.kept kU (.inl (Nat.le_refl _)), C3.out.kept kU (.inl (Nat.le_refl _)), K3.out.trans2 kU (.inl (Nat.zero_le _))⟩
    rw [hU, hbx]; exact Blk.new _ _ _
  have hgb : g < bx := by rw [hbx]; omega
  have hwb : w.heap.size ≤ bx := by rw [hbx]; omega
  have hwx : w.heap.size < bx := by rw [hbx]; exact B3.out.lt
  have HU := Lib.hid hU
  have HB := Lib.hid hbx
  clear hU hbx kU B3 C3 K3
  go_upto_region 2 with fail
  rw [← HU.out, ← HB.out]
  clear HU HB
  go_wp2_with fail
  with_reducible refine (below_any _ _ _ _ _ _ S.out.cur (by omega) (by omega)).mono ?_
  rintro e w4 ⟨q1, rfl, -, hc, hk⟩
  have T := Lib.hid (S.out.draw (by omega) (by omega) hc hk)
  clear hc hk S
  have cc := T.out.box.cell 1
  have ff := T.out.box.frozen 1
  obtain ⟨U, hU⟩ : ∃ U, U = w4.setCell ⟨bx, 1, none⟩ (.int .i64 q1) := ⟨_, rfl⟩
  obtain ⟨y, S⟩ : ∃ y, Hid (TkSt w U g A c xs bx w.heap.size y) := by rw [hU]; exact T.out.put1 hgb hwb (by omega) 1 (by omega) q1
  have HU := Lib.hid hU
  clear hU T
  go_upto_region 3 with fail
  rw [← HU.out]
  clear HU cc ff
  go_wp2_with fail
  with_reducible refine (below_any _ _ _ _ _ _ S.out.cur (by omega) (by omega)).mono ?_
  rintro e w5 ⟨q2, rfl, -, hc, hk⟩
  have T := Lib.hid (S.out.draw (by omega) (by omega) hc hk)
  clear hc hk S
  have cc := T.out.box.cell 6
  have ff := T.out.box.frozen 6
  obtain ⟨U, hU⟩ : ∃ U, U = w5.setCell ⟨bx, 6, none⟩ (.int .i64 q2) := ⟨_, rfl⟩
  obtain ⟨y, S⟩ : ∃ y, Hid (TkSt w U g A c xs bx w.heap.size y) := by rw [hU]; exact T.out.put1 hgb hwb (by omega) 6 (by omega) q2
  have HU := Lib.hid hU
  clear hU T
  go_upto_region 4 with fail
  rw [← HU.out]
  clear HU cc ff
  go_wp2_with fail
  with_reducible refine (below_any _ _ _ _ _ _ S.out.cur (by omega) (by omega)).mono ?_
  rintro e w6 ⟨r, rfl, ⟨hr0, hr1⟩, hc, hk⟩
  have T := Lib.hid (S.out.draw (by omega) (by omega) hc hk)
  clear hc hk S
  rcases (by omega : r = 0 ∨ r = 1 ∨ r = 2 ∨ r = 3) with rfl | rfl | rfl | rfl
  · go_upto_region 6 with fail
    obtain ⟨c0, c1, c2, c3, c4, c5, c6, c7, c8⟩ := T.out.box.nine
    have TD := Lib.hid (T.out.quiet (Kept.refl 0 0 w6).drew)
    go_region_law (first
      | (go_simp; go_at_call 42; (with_reducible refine (below_any _ _ _ _ _ _ TD.out.cur (by omega) (by omega)).mono ?_); rintro e w7 ⟨q, rfl, -, hc, hk⟩; have T2 := Lib.hid (TD.out.draw (by omega) (by omega) hc hk); clear hc hk; obtain ⟨d0, d1, d2, d3, d4, d5, d6, d7, d8⟩ := T2.out.box.nine)
      | (go_simp; go_at_call 62; (with_reducible refine (park_any y 1 q (-1) _).mono ?_); rintro e w8 ⟨rfl, hk⟩; obtain ⟨y2, hy⟩ : ∃ y2, y2 = parkT y 1 q (-1) := ⟨_, rfl⟩; rw [← hy]; clear hy; have T3 := Lib.hid (T2.out.quiet hk); clear hk; obtain ⟨m0, m1, m2, m3, m4, m5, m6, m7, m8⟩ := T3.out.box.nine; obtain ⟨n0, n1, n2, n3, n4, n5, n6, n7, n8⟩ := T3.out.box.free9))
    all_goals
      obtain ⟨U, hU⟩ : ∃ U, U = (((((((((w8.setCell ⟨bx, 0, none⟩ (.int .i64 y2.prog)).setCell ⟨bx, 1, none⟩ (.int .i64 y2.pc)).setCell ⟨bx, 2, none⟩ (.int .i64 y2.st)).setCell ⟨bx, 3, none⟩ (.int .i64 y2.why)).setCell ⟨bx, 4, none⟩ (.int .i64 y2.what)).setCell ⟨bx, 5, none⟩ (.int .i64 y2.timer)).setCell ⟨bx, 6, none⟩ (.int .i64 y2.reg)).setCell ⟨bx, 7, none⟩ (.int .i64 y2.grp)).setCell ⟨bx, 8, none⟩ (.int .i64 y2.err)) := ⟨_, rfl⟩
      have S : Hid (TkSt w U g A c xs bx w.heap.size y2) := by show TkS _ _ _ _ _ _ _ _ _; rw [hU]; exact T3.out.put9 hgb hwb (by omega) _ _ _ _ _ _ _ _ _
      rw [← hU]
      clear hU T3 T TD T2 c0 c1 c2 c3 c4 c5 c6 c7 c8 d0 d1 d2 d3 d4 d5 d6 d7 d8 m0 m1 m2 m3 m4 m5 m6 m7 m8 n0 n1 n2 n3 n4 n5 n6 n7 n8
      go_upto_region 13 with fail
      obtain ⟨c0, c1, c2, c3, c4, c5, c6, c7, c8⟩ := S.out.box.nine
      obtain ⟨r0, r1, r2, r3, r4, r5, r6, r7, r8⟩ := S.out.res.nine
      obtain ⟨f0, f1, f2, f3, f4, f5, f6, f7, f8⟩ := S.out.res.free9
      go_wp2
      exact bodyPost_ret (v := .agg #[.int .i64 y2.prog, .int .i64 y2.pc, .int .i64 y2.st, .int .i64 y2.why, .int .i64 y2.what, .int .i64 y2.timer, .int .i64 y2.reg, .int .i64 y2.grp, .int .i64 y2.err]) (results_l10Draw _ _ w.heap.size _ _ _ _ _ _ _ _ _ rfl (fin9 S.out hgw (Nat.le_refl _) _ _ _ _ _ _ _ _ _).2.2) rfl ⟨y2, rfl, (fin9 S.out hgw (Nat.le_refl _) _ _ _ _ _ _ _ _ _).1, (fin9 S.out hgw (Nat.le_refl _) _ _ _ _ _ _ _ _ _).2.1⟩
  · go_wp2_with fail
    with_reducible refine (once_any _ _ _ _ _ _ T.out.cur (by omega) (by omega)).mono ?_
    rintro e w7 ⟨b, rfl, hc, hk⟩
    have TB := Lib.hid (T.out.draw (by omega) (by omega) hc hk)
    clear hc hk T
    cases b
    · go_upto_region 10 with fail
      obtain ⟨c0, c1, c2, c3, c4, c5, c6, c7, c8⟩ := TB.out.box.nine
      have TD := Lib.hid (TB.out.quiet (Kept.refl 0 0 w7).drew)
      go_region_law (first
        | (go_simp; go_at_call 61; (with_reducible refine (from_any _ _ _ _ _ _ _ TD.out.cur (by omega) (by omega) (by omega) (by omega)).mono ?_); rintro e w8 ⟨q, rfl, -, hc, hk⟩; have T2 := Lib.hid (TD.out.draw (by omega) (by omega) hc hk); clear hc hk; obtain ⟨d0, d1, d2, d3, d4, d5, d6, d7, d8⟩ := T2.out.box.nine)
        | (go_simp; go_at_call 42; (with_reducible refine (below_any _ _ _ _ _ _ T2.out.cur (by omega) (by omega)).mono ?_); rintro e w9 ⟨q3, rfl, -, hc, hk⟩; have T4 := Lib.hid (T2.out.draw (by omega) (by omega) hc hk); clear hc hk; obtain ⟨k0, k1, k2, k3, k4, k5, k6, k7, k8⟩ := T4.out.box.nine)
        | (go_simp; go_at_call 62; (with_reducible refine (park_any y q q3 (-1) _).mono ?_); rintro e w10 ⟨rfl, hk⟩; obtain ⟨y2, hy⟩ : ∃ y2, y2 = parkT y q q3 (-1) := ⟨_, rfl⟩; rw [← hy]; clear hy; have T3 := Lib.hid (T4.out.quiet hk); clear hk; obtain ⟨m0, m1, m2, m3, m4, m5, m6, m7, m8⟩ := T3.out.box.nine; obtain ⟨n0, n1, n2, n3, n4, n5, n6, n7, n8⟩ := T3.out.box.free9))
      all_goals
        obtain ⟨U, hU⟩ : ∃ U, U = (((((((((w10.setCell ⟨bx, 0, none⟩ (.int .i64 y2.prog)).setCell ⟨bx, 1, none⟩ (.int .i64 y2.pc)).setCell ⟨bx, 2, none⟩ (.int .i64 y2.st)).setCell ⟨bx, 3, none⟩ (.int .i64 y2.why)).setCell ⟨bx, 4, none⟩ (.int .i64 y2.what)).setCell ⟨bx, 5, none⟩ (.int .i64 y2.timer)).setCell ⟨bx, 6, none⟩ (.int .i64 y2.reg)).setCell ⟨bx, 7, none⟩ (.int .i64 y2.grp)).setCell ⟨bx, 8, none⟩ (.int .i64 y2.err)) := ⟨_, rfl⟩
        have S : Hid (TkSt w U g A c xs bx w.heap.size y2) := by show TkS _ _ _ _ _ _ _ _ _; rw [hU]; exact T3.out.put9 hgb hwb (by omega) _ _ _ _ _ _ _ _ _
        rw [← hU]
        clear hU T3 TB TD T2 T4 c0 c1 c2 c3 c4 c5 c6 c7 c8 d0 d1 d2 d3 d4 d5 d6 d7 d8 k0 k1 k2 k3 k4 k5 k6 k7 k8 m0 m1 m2 m3 m4 m5 m6 m7 m8 n0 n1 n2 n3 n4 n5 n6 n7 n8
        go_upto_region 13 with fail
        obtain ⟨c0, c1, c2, c3, c4, c5, c6, c7, c8⟩ := S.out.box.nine
        obtain ⟨r0, r1, r2, r3, r4, r5, r6, r7, r8⟩ := S.out.res.nine
        obtain ⟨f0, f1, f2, f3, f4, f5, f6, f7, f8⟩ := S.out.res.free9
        go_wp2
        exact bodyPost_ret (v := .agg #[.int .i64 y2.prog, .int .i64 y2.pc, .int .i64 y2.st, .int .i64 y2.why, .int .i64 y2.what, .int .i64 y2.timer, .int .i64 y2.reg, .int .i64 y2.grp, .int .i64 y2.err]) (results_l10Draw _ _ w.heap.size _ _ _ _ _ _ _ _ _ rfl (fin9 S.out hgw (Nat.le_refl _) _ _ _ _ _ _ _ _ _).2.2) rfl ⟨y2, rfl, (fin9 S.out hgw (Nat.le_refl _) _ _ _ _ _ _ _ _ _).1, (fin9 S.out hgw (Nat.le_refl _) _ _ _ _ _ _ _ _ _).2.1⟩
    · go_upto_region 9 with fail
      obtain ⟨c0, c1, c2, c3, c4, c5, c6, c7, c8⟩ := TB.out.box.nine
      have TD := Lib.hid (TB.out.quiet (Kept.refl 0 0 w7).drew)
      go_region_law (first
        | (go_simp; go_at_call 42; (with_reducible refine (below_any _ _ _ _ _ _ TD.out.cur (by omega) (by omega)).mono ?_); rintro e w8 ⟨q, rfl, -, hc, hk⟩; have T2 := Lib.hid (TD.out.draw (by omega) (by omega) hc hk); clear hc hk; obtain ⟨d0, d1, d2, d3, d4, d5, d6, d7, d8⟩ := T2.out.box.nine)
        | (go_simp; go_at_call 42; (with_reducible refine (below_any _ _ _ _ _ _ T2.out.cur (by omega) (by omega)).mono ?_); rintro e w9 ⟨q3, rfl, -, hc, hk⟩; have T4 := Lib.hid (T2.out.draw (by omega) (by omega) hc hk); clear hc hk; obtain ⟨k0, k1, k2, k3, k4, k5, k6, k7, k8⟩ := T4.out.box.nine)
        | (go_simp; go_at_call 62; (with_reducible refine (park_any y 2 q q3 _).mono ?_); rintro e w10 ⟨rfl, hk⟩; obtain ⟨y2, hy⟩ : ∃ y2, y2 = parkT y 2 q q3 := ⟨_, rfl⟩; rw [← hy]; clear hy; have T3 := Lib.hid (T4.out.quiet hk); clear hk; obtain ⟨m0, m1, m2, m3, m4, m5, m6, m7, m8⟩ := T3.out.box.nine; obtain ⟨n0, n1, n2, n3, n4, n5, n6, n7, n8⟩ := T3.out.box.free9))
      all_goals
        obtain ⟨U, hU⟩ : ∃ U, U = (((((((((w10.setCell ⟨bx, 0, none⟩ (.int .i64 y2.prog)).setCell ⟨bx, 1, none⟩ (.int .i64 y2.pc)).setCell ⟨bx, 2, none⟩ (.int .i64 y2.st)).setCell ⟨bx, 3, none⟩ (.int .i64 y2.why)).setCell ⟨bx, 4, none⟩ (.int .i64 y2.what)).setCell ⟨bx, 5, none⟩ (.int .i64 y2.timer)).setCell ⟨bx, 6, none⟩ (.int .i64 y2.reg)).setCell ⟨bx, 7, none⟩ (.int .i64 y2.grp)).setCell ⟨bx, 8, none⟩ (.int .i64 y2.err)) := ⟨_, rfl⟩
        have S : Hid (TkSt w U g A c xs bx w.heap.size y2) := by show TkS _ _ _ _ _ _ _ _ _; rw [hU]; exact T3.out.put9 hgb hwb (by omega) _ _ _ _ _ _ _ _ _
        rw [← hU]
        clear hU T3 TB TD T2 T4 c0 c1 c2 c3 c4 c5 c6 c7 c8 d0 d1 d2 d3 d4 d5 d6 d7 d8 k0 k1 k2 k3 k4 k5 k6 k7 k8 m0 m1 m2 m3 m4 m5 m6 m7 m8 n0 n1 n2 n3 n4 n5 n6 n7 n8
        go_upto_region 13 with fail
        obtain ⟨c0, c1, c2, c3, c4, c5, c6, c7, c8⟩ := S.out.box.nine
        obtain ⟨r0, r1, r2, r3, r4, r5, r6, r7, r8⟩ := S.out.res.nine
        obtain ⟨f0, f1, f2, f3, f4, f5, f6, f7, f8⟩ := S.out.res.free9
        go_wp2
        exact bodyPost_ret (v := .agg #[.int .i64 y2.prog, .int .i64 y2.pc, .int .i64 y2.st, .int .i64 y2.why, .int .i64 y2.what, .int .i64 y2.timer, .int .i64 y2.reg, .int .i64 y2.grp, .int .i64 y2.err]) (results_l10Draw _ _ w.heap.size _ _ _ _ _ _ _ _ _ rfl (fin9 S.out hgw (Nat.le_refl _) _ _ _ _ _ _ _ _ _).2.2) rfl ⟨y2, rfl, (fin9 S.out hgw (Nat.le_refl _) _ _ _ _ _ _ _ _ _).1, (fin9 S.out hgw (Nat.le_refl _) _ _ _ _ _ _ _ _ _).2.1⟩
  · go_upto_region 12 with fail
    obtain ⟨c0, c1, c2, c3, c4, c5, c6, c7, c8⟩ := T.out.box.nine
    have TD := Lib.hid (T.out.quiet (Kept.refl 0 0 w6).drew)
    go_region_law (first
      | (go_simp; go_at_call 42; (with_reducible refine (below_any _ _ _ _ _ _ TD.out.cur (by omega) (by omega)).mono ?_); rintro e w7 ⟨q, rfl, -, hc, hk⟩; have T2 := Lib.hid (TD.out.draw (by omega) (by omega) hc hk); clear hc hk; obtain ⟨d0, d1, d2, d3, d4, d5, d6, d7, d8⟩ := T2.out.box.nine)
      | (go_simp; go_at_call 63; (with_reducible refine (end_any y q _).mono ?_); rintro e w8 ⟨rfl, hk⟩; obtain ⟨y2, hy⟩ : ∃ y2, y2 = endT y q := ⟨_, rfl⟩; rw [← hy]; clear hy; have T3 := Lib.hid (T2.out.quiet hk); clear hk; obtain ⟨m0, m1, m2, m3, m4, m5, m6, m7, m8⟩ := T3.out.box.nine; obtain ⟨n0, n1, n2, n3, n4, n5, n6, n7, n8⟩ := T3.out.box.free9))
    all_goals
      obtain ⟨U, hU⟩ : ∃ U, U = (((((((((w8.setCell ⟨bx, 0, none⟩ (.int .i64 y2.prog)).setCell ⟨bx, 1, none⟩ (.int .i64 y2.pc)).setCell ⟨bx, 2, none⟩ (.int .i64 y2.st)).setCell ⟨bx, 3, none⟩ (.int .i64 y2.why)).setCell ⟨bx, 4, none⟩ (.int .i64 y2.what)).setCell ⟨bx, 5, none⟩ (.int .i64 y2.timer)).setCell ⟨bx, 6, none⟩ (.int .i64 y2.reg)).setCell ⟨bx, 7, none⟩ (.int .i64 y2.grp)).setCell ⟨bx, 8, none⟩ (.int .i64 y2.err)) := ⟨_, rfl⟩
      have S : Hid (TkSt w U g A c xs bx w.heap.size y2) := by show TkS _ _ _ _ _ _ _ _ _; rw [hU]; exact T3.out.put9 hgb hwb (by omega) _ _ _ _ _ _ _ _ _
      rw [← hU]
      clear hU T3 T TD T2 c0 c1 c2 c3 c4 c5 c6 c7 c8 d0 d1 d2 d3 d4 d5 d6 d7 d8 m0 m1 m2 m3 m4 m5 m6 m7 m8 n0 n1 n2 n3 n4 n5 n6 n7 n8
      go_upto_region 13 with fail
      obtain ⟨c0, c1, c2, c3, c4, c5, c6, c7, c8⟩ := S.out.box.nine
      obtain ⟨r0, r1, r2, r3, r4, r5, r6, r7, r8⟩ := S.out.res.nine
      obtain ⟨f0, f1, f2, f3, f4, f5, f6, f7, f8⟩ := S.out.res.free9
      go_wp2
      exact bodyPost_ret (v := .agg #[.int .i64 y2.prog, .int .i64 y2.pc, .int .i64 y2.st, .int .i64 y2.why, .int .i64 y2.what, .int .i64 y2.timer, .int .i64 y2.reg, .int .i64 y2.grp, .int .i64 y2.err]) (results_l10Draw _ _ w.heap.size _ _ _ _ _ _ _ _ _ rfl (fin9 S.out hgw (Nat.le_refl _) _ _ _ _ _ _ _ _ _).2.2) rfl ⟨y2, rfl, (fin9 S.out hgw (Nat.le_refl _) _ _ _ _ _ _ _ _ _).1, (fin9 S.out hgw (Nat.le_refl _) _ _ _ _ _ _ _ _ _).2.1⟩
  · have S := Lib.hid T.out
    clear T
    go_upto_region 13 with fail
    obtain ⟨c0, c1, c2, c3, c4, c5, c6, c7, c8⟩ := S.out.box.nine
    obtain ⟨r0, r1, r2, r3, r4, r5, r6, r7, r8⟩ := S.out.res.nine
    obtain ⟨f0, f1, f2, f3, f4, f5, f6, f7, f8⟩ := S.out.res.free9
    go_wp2
    exact bodyPost_ret (v := .agg #[.int .i64 y.prog, .int .i64 y.pc, .int .i64 y.st, .int .i64 y.why, .int .i64 y.what, .int .i64 y.timer, .int .i64 y.reg, .int .i64 y.grp, .int .i64 y.err]) (results_l10Draw _ _ w.heap.size _ _ _ _ _ _ _ _ _ rfl (fin9 S.out hgw (Nat.le_refl _) _ _ _ _ _ _ _ _ _).2.2) rfl ⟨y, rfl, (fin9 S.out hgw (Nat.le_refl _) _ _ _ _ _ _ _ _ _).1, (fin9 S.out hgw (Nat.le_refl _) _ _ _ _ _ _ _ _ _).2.1⟩
end Go.Proofs.Ytfpnpjpcjbndoaa
