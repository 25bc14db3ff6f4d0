/- The draws of a tree and any spread: new memory, bounded lengths, nothing old turned but the cursor; condition: the code can be read and has at most 4096 bytes. -/
import Derived.Test.YtlfbmjfbebbdlaaW3
import Derived.Test.YtlfbmjfbebbdlaaWm
namespace Go.Proofs.Ytlfbmjfbebbdlaa
open Go.RowKit Go.Sort

/-- The state of a draw of a tree and any spread under way. -/
structure St8 (w wr : World) (g : Nat) (A : Option Addr) (c : Nat) (xs : List Int) (D : Option Addr) (d : Nat) (t : List Nd) (b : Nat) (D1 : Option Addr) (d1 : Nat) (D2 : Option Addr) (d2 : Nat) (s : Spr) : Prop where
  tl : t.length ≤ 60
  tn : s.told.length ≤ 61
  wn : s.work.length ≤ 241
  box : Blk wr b 31 #[.slice D1 s.told.length d1, .slice D2 s.work.length d2]
  o1 : OwnZ wr w.heap.size wr.heap.size 4 1 D1 s.told.length d1 (bR.flat s.told)
  o2 : OwnZ wr w.heap.size wr.heap.size 2 1 D2 s.work.length d2 (iR.flat s.work)
  res : Blk wr w.heap.size 31 #[.slice none 0 0, .slice none 0 0]
  tree : OwnZ wr w.heap.size wr.heap.size 59 5 D t.length d (ndR.flat t)
  cur : Cur wr g A c xs
  kept : Kept g (g + 1) w wr
/-- What such a draw leaves. -/
def DrawnTS (g : Nat) (A : Option Addr) (c : Nat) (xs : List Int) (w : World) (e : Ending) (w' : World) : Prop :=
  ∃ (D : Option Addr) (d : Nat) (t : List Nd) (D1 : Option Addr) (d1 : Nat) (D2 : Option Addr) (d2 : Nat) (s : Spr), e = .returned (.tuple #[.slice D t.length d, .agg #[.slice D1 s.told.length d1, .slice D2 s.work.length d2]]) ∧
    t.length ≤ 60 ∧ s.told.length ≤ 61 ∧ s.work.length ≤ 241 ∧ OwnNd w' w.heap.size w'.heap.size (.slice D t.length d) t ∧ OwnS w' w.heap.size w'.heap.size (.agg #[.slice D1 s.told.length d1, .slice D2 s.work.length d2]) s ∧ Cur w' g A c xs ∧ Kept g (g + 1) w w'
section
variable {w wr wr' X : World} {g c d b d1 d2 : Nat} {A D D1 D2 : Option Addr} {xs : List Int} {t : List Nd} {s : Spr}
theorem St8.draw (h : St8 w wr g A c xs D d t b D1 d1 D2 d2 s) (hg : g < w.heap.size) (hb : w.heap.size < b) (hc : Cur wr' g A c xs) (hk : Kept g (g + 1) wr wr') : St8 w wr' g A c xs D d t b D1 d1 D2 d2 s := by
  have hs := hk.size
  exact ⟨h.tl, h.tn, h.wn, h.box.kept hk (by omega), (h.o1.kept hk (by omega)).wide (Nat.le_refl _) hs, (h.o2.kept hk (by omega)).wide (Nat.le_refl _) hs, h.res.kept hk (by omega), (h.tree.kept hk (by omega)).wide (Nat.le_refl _) hs, hc, h.kept.trans hk⟩
/-- The result takes what the variable holds. -/
theorem fin_ts {a1 a2 : Value} {m1 m2 : Nat} (e1 : m1 = s.told.length) (e2 : m2 = s.work.length) (tl : t.length ≤ 60) (tn : s.told.length ≤ 61) (wn : s.work.length ≤ 241) (hg : g < w.heap.size) (res : Blk wr w.heap.size 31 #[a1, a2]) (o1 : OwnZ wr w.heap.size wr.heap.size 4 1 D1 m1 d1 (bR.flat s.told)) (o2 : OwnZ wr w.heap.size wr.heap.size 2 1 D2 m2 d2 (iR.flat s.work))
    (tree : OwnZ wr w.heap.size wr.heap.size 59 5 D t.length d (ndR.flat t)) (cur : Cur wr g A c xs) (kept : Kept g (g + 1) w wr) (hX : X = (wr.setCell ⟨w.heap.size, 0, none⟩ (.slice D1 m1 d1)).setCell ⟨w.heap.size, 1, none⟩ (.slice D2 m2 d2)) :
    Blk X w.heap.size 31 #[.slice D1 m1 d1, .slice D2 m2 d2] ∧ DrawnTS g A c xs w (.returned (.tuple #[.slice D t.length d, .agg #[.slice D1 m1 d1, .slice D2 m2 d2]])) X := by
  subst e1 e2
  have kx := kept_set2 wr w.heap.size (.slice D1 s.told.length d1) (.slice D2 s.work.length d2)
  rw [← hX] at kx
  have zx := kx.size
  exact ⟨by rw [hX]; exact blk_set2 res _ _, D, d, t, D1, d1, D2, d2, s, rfl, tl, tn, wn, ⟨D, d, rfl, (tree.off res (by decide) kx).wide (Nat.le_refl _) zx⟩, ⟨_, _, rfl, ⟨D1, d1, rfl, (o1.off res (by decide) kx).wide (Nat.le_refl _) zx⟩, ⟨D2, d2, rfl, (o2.off res (by decide) kx).wide (Nat.le_refl _) zx⟩⟩, cur.kept kx (.inr (by omega)), kept.trans2 kx (.inr (Nat.le_refl _))⟩
end
theorem DrawnTS.drew {g : Nat} {A : Option Addr} {c : Nat} {xs : List Int} {w w' : World} {e : Ending} (h : DrawnTS g A c xs w e w') : DrawnTS g A c xs w e w'.drew := by
  obtain ⟨D, d, t, D1, d1, D2, d2, s, h1, h2, h3, h4, h5, h6, h7, h8⟩ := h
  have k : Kept 0 0 w' w'.drew := (Kept.refl 0 0 w').drew
  exact ⟨D, d, t, D1, d1, D2, d2, s, h1, h2, h3, h4, h5.kept k (.inl (Nat.le_refl _)), h6.kept k (.inl (Nat.le_refl _)), h7.kept k (.inl (Nat.le_refl _)), h8.trans (k.wide (.inl (Nat.le_refl _)))⟩
/-- A block stays while a row of another type is written. -/
theorem blk_row {w w' : World} {g ty lo hi e size n c : Nat} {A : Option Addr} {cs : Array Value} {xs : List Value} (h : Blk w g ty cs) (ho : OwnZ w lo hi e size A n c xs) (hne : e ≠ ty) (hk : Kept (aLo A) (aHi A) w w') : Blk w' g ty cs := by
  rcases ho.form with ⟨rfl, _, _⟩ | ⟨g1, rfl, _, _, _⟩
  · exact h.kept hk (.inl (Nat.le_refl _))
  · have hb : g1 ≠ g := by
      obtain ⟨cx, hx⟩ := row_blk ho.1 (b := g1) rfl
      exact blk_ne hx h hne
    exact h.kept hk (by show _ ∨ g < g1 ∨ g1 + 1 ≤ g; omega)
theorem cur_row {w w' : World} {g c lo hi e size n d : Nat} {A B : Option Addr} {xs : List Int} {ys : List Value} (h : Cur w g A c xs) (ho : OwnZ w lo hi e size B n d ys) (hl : g < lo) (hk : Kept (aLo B) (aHi B) w w') : Cur w' g A c xs :=
  h.kept hk (by have := ho.range; omega)
section
variable {w wr w7 F : World} {g c d b d1 d2 d3 : Nat} {A D D1 D2 D3 : Option Addr} {xs : List Int} {t : List Nd} {s : Spr}
/-- One told more. -/
theorem St8.told1 (h : St8 w wr g A c xs D d t b D1 d1 D2 d2 s) (hg : g < w.heap.size) (hb : w.heap.size < b) (hl : s.told.length ≤ 60) {ts : List Bool} (hts : ts.length = s.told.length + 1) {o : Obj}
    (hown : w7.ownsRow w.heap.size 4 1 (.slice D3 ts.length d3) ts.length (bR.flat ts)) (hgrow : (wr.alloc o).grownBy w7 (rowAt D1)) (hF : F = w7.setCell ⟨b, 0, none⟩ (.slice D3 ts.length d3)) : St8 w F g A c xs D d t b D3 d3 D2 d2 ⟨ts, s.work⟩ := by
  have ka : Kept 0 0 wr (wr.alloc o) := Kept.alloc0 _ _
  have k7 : Kept (aLo D1) (aHi D1) (wr.alloc o) w7 := kept_app hgrow
  have za := ka.size
  have z7 := k7.size
  have r1 := h.o1.range
  have o1 := h.o1.kept ka (.inl (Nat.le_refl _))
  have bx : Blk w7 b 31 #[.slice D1 s.told.length d1, .slice D2 s.work.length d2] := blk_row (h.box.kept ka (.inl (Nat.le_refl _))) o1 (by decide) k7
  have kx := kept_set1 w7 b 0 (.slice D3 ts.length d3)
  rw [← hF] at kx
  have zx := kx.size
  refine ⟨h.tl, by show ts.length ≤ 61; omega, h.wn, by rw [hF]; exact bx.set_ 0 _, ?_, ?_, ?_, ?_, ?_, ?_⟩
  · exact ((OwnZ.of_row hown).off bx (by decide) kx).wide (Nat.le_refl _) zx
  · exact ((o1.other (h.o2.kept ka (.inl (Nat.le_refl _))) (by decide) k7).off bx (by decide) kx).wide (Nat.le_refl _) (by omega)
  · exact (blk_row (h.res.kept ka (.inl (Nat.le_refl _))) o1 (by decide) k7).kept kx (by omega)
  · exact ((o1.other (h.tree.kept ka (.inl (Nat.le_refl _))) (by decide) k7).off bx (by decide) kx).wide (Nat.le_refl _) (by omega)
  · exact (cur_row (h.cur.kept ka (.inl (Nat.le_refl _))) o1 hg k7).kept kx (.inr (by omega))
  · exact ((h.kept.trans (ka.wide (.inl (Nat.le_refl _)))).trans2 k7 (by omega)).trans2 kx (.inr (by omega))
/-- One node more in the work. -/
theorem St8.work1 (h : St8 w wr g A c xs D d t b D1 d1 D2 d2 s) (hg : g < w.heap.size) (hb : w.heap.size < b) (hl : s.work.length ≤ 240) {ts : List Int} (hts : ts.length = s.work.length + 1) {o : Obj}
    (hown : w7.ownsRow w.heap.size 2 1 (.slice D3 ts.length d3) ts.length (iR.flat ts)) (hgrow : (wr.alloc o).grownBy w7 (rowAt D2)) (hF : F = w7.setCell ⟨b, 1, none⟩ (.slice D3 ts.length d3)) : St8 w F g A c xs D d t b D1 d1 D3 d3 ⟨s.told, ts⟩ := by
  have ka : Kept 0 0 wr (wr.alloc o) := Kept.alloc0 _ _
  have k7 : Kept (aLo D2) (aHi D2) (wr.alloc o) w7 := kept_app hgrow
  have za := ka.size
  have z7 := k7.size
  have r1 := h.o2.range
  have o2 := h.o2.kept ka (.inl (Nat.le_refl _))
  have bx : Blk w7 b 31 #[.slice D1 s.told.length d1, .slice D2 s.work.length d2] := blk_row (h.box.kept ka (.inl (Nat.le_refl _))) o2 (by decide) k7
  have kx := kept_set1 w7 b 1 (.slice D3 ts.length d3)
  rw [← hF] at kx
  have zx := kx.size
  refine ⟨h.tl, h.tn, by show ts.length ≤ 241; omega, by rw [hF]; exact bx.set_ 1 _, ?_, ?_, ?_, ?_, ?_, ?_⟩
  · exact ((o2.other (h.o1.kept ka (.inl (Nat.le_refl _))) (by decide) k7).off bx (by decide) kx).wide (Nat.le_refl _) (by omega)
  · exact ((OwnZ.of_row hown).off bx (by decide) kx).wide (Nat.le_refl _) zx
  · exact (blk_row (h.res.kept ka (.inl (Nat.le_refl _))) o2 (by decide) k7).kept kx (by omega)
  · exact ((o2.other (h.tree.kept ka (.inl (Nat.le_refl _))) (by decide) k7).off bx (by decide) kx).wide (Nat.le_refl _) (by omega)
  · exact (cur_row (h.cur.kept ka (.inl (Nat.le_refl _))) o2 hg k7).kept kx (.inr (by omega))
  · exact ((h.kept.trans (ka.wide (.inl (Nat.le_refl _)))).trans2 k7 (by omega)).trans2 kx (.inr (by omega))
/-- One told or not any more. -/
theorem St8.toldSet {x : Nat} (h : St8 w wr g A c xs D d t b (some ⟨x, 0, none⟩) d1 D2 d2 s) (hg : g < w.heap.size) (hb : w.heap.size < b) (j : Nat) (q : Bool) (hF : F = wr.setCell ⟨x, j, none⟩ (.bool q)) : St8 w F g A c xs D d t b (some ⟨x, 0, none⟩) d1 D2 d2 ⟨s.told.set j q, s.work⟩ := by
  have k7 : Kept (aLo (some ⟨x, 0, none⟩)) (aHi (some ⟨x, 0, none⟩)) wr F := by rw [hF]; exact kept_set1 wr x j (.bool q)
  have z7 := k7.size
  have r1 := h.o1.range
  have hr := own_row_lo h.o1.1 x rfl
  refine ⟨h.tl, by simpa using h.tn, h.wn, ?_, ?_, (h.o1.other h.o2 (by decide) k7).wide (Nat.le_refl _) z7, blk_row h.res h.o1 (by decide) k7, (h.o1.other h.tree (by decide) k7).wide (Nat.le_refl _) z7, cur_row h.cur h.o1 hg k7, h.kept.trans2 k7 (by omega)⟩
  · have := blk_row h.box h.o1 (by decide) k7
    show Blk _ _ _ #[.slice _ (s.told.set j q).length _, _]
    rw [List.length_set]; exact this
  · show OwnZ F _ _ _ 1 _ (s.told.set j q).length _ _
    rw [List.length_set, hF]
    exact ⟨own_putB h.o1.1 j q, fun ad e => by injection e with e; subst e; simpa using hr.2⟩
end
theorem results_any7 (tmps : Array Value) (w : World) (r : Nat) (v v0 v1 : Value) (hv : tmps[2]?.getD undef = v) (hp : tmps[3]?.getD undef = .pointer (some ⟨r, 0, none⟩)) (h : Blk w r 31 #[v0, v1]) :
    (results Try.f43 tmps).run Try.prog w = .ok (.tuple #[v, .agg #[v0, v1]]) w := by
  have h0 := bs0 h
  have h1 := bs1 h
  simp [results, Try.results43, hv, hp, go_sem, h0, h1]
theorem rd_litB (w : World) (x : Bool) : RdR bR (w.alloc (.cells #[.bool x] 4)) (w.heap.size + 1) (some ⟨w.heap.size, 0, none⟩) [x] := by
  refine ⟨by simp [maxLen], fun _ => ⟨_, rfl, by simp, fun j u hu => ?_⟩⟩
  rcases j with _ | j
  · have : u = .bool x := by simpa [Rec.flat, bR] using hu.symm
    rw [this]
    exact (Blk.new w 4 #[.bool x]).cell 0
  · simp [Rec.flat, bR] at hu

set_option maxHeartbeats 12800000 in
set_option maxRecDepth 100000 in
theorem drawAny7_any (xs : List Int) (A : Option Addr) (c g : Nat) (w : World) (h : Cur w g A c xs) :
    Calls Try.prog 43 #[.pointer (some ⟨g, 0, none⟩)] w (DrawnTS g A c xs w) := by
  obtain ⟨i0, hi0, hz0, hz1, hz2⟩ := info_parts Try.infoB
  have hg := h.lt
  have H := Lib.hid h
  have HT := Lib.hid bSlice
  have HI := Lib.hid iSlice
  clear h
  obtain ⟨W, hW⟩ : ∃ W, W = w.alloc (.cells #[.slice none 0 0, .slice none 0 0] 31) := ⟨_, rfl⟩
  have KW : Hid (Kept 0 0 w W) := by show Kept _ _ _ _; rw [hW]; exact Kept.alloc0 _ _
  have RW : Hid (Blk W w.heap.size 31 #[.slice none 0 0, .slice none 0 0]) := by show Blk _ _ _ _; rw [hW]; exact Blk.new _ _ _
  have zW : w.heap.size < W.heap.size := by rw [hW]; simp
  have HW := Lib.hid hW
  have CW := Lib.hid (H.out.kept KW.out (.inl (Nat.le_refl _)))
  clear hW
  go_enter Try.func43, Try.ntmps43
  go_upto_region 1 with fail
  rw [← HW.out]
  go_wp2_with fail
  with_reducible refine (drawAny5_any _ _ _ _ _ CW.out).mono ?_
  rintro e w1 ⟨D, d, t, rfl, hs5⟩
  have S5 := Lib.hid hs5
  have R1 := Lib.hid (RW.out.kept hs5.kept (by omega))
  have K1 := Lib.hid ((KW.out.wide (lo' := g) (hi' := g + 1) (.inl (Nat.le_refl _))).trans hs5.kept)
  have z1 := hs5.kept.size
  have tl := hs5.len
  have tp := hs5.pos
  clear hs5 CW HW KW RW
  go_wp2_with fail
  with_reducible refine (tree5_any t _ _ (S5.out.ownNd.rdW (Nat.le_refl _))).mono ?_
  rintro e w2 ⟨rfl, hk⟩
  have R2 := Lib.hid (R1.out.kept hk (.inl (Nat.le_refl _)))
  have C2 := Lib.hid (S5.out.cur.kept hk (.inl (Nat.le_refl _)))
  have K2 := Lib.hid (K1.out.trans (hk.wide (.inl (Nat.le_refl _))))
  have T2 := Lib.hid (((OwnZ.of_row S5.out.own).kept hk (.inl (Nat.le_refl _))).wide (lo' := w.heap.size) (hi' := w2.heap.size) (Nat.le_of_lt zW) hk.size)
  have z2 := hk.size
  clear hk S5 R1 K1
  cases q1 : treeB t
  · clear q1
    obtain ⟨w3, hmk, hown, hgr⟩ := run_make_full (P := Try.prog) w2.drew w2.heap.size 28 4 i0 (.bool false) 1 Try.underlying28 hi0 hz0 hz1 .i64 .i64 t.length (by rw [hz2]; omega) (by unfold maxLen; omega) (Nat.le_refl _)
    have OB : OwnZ w3 w2.heap.size w3.heap.size 4 1 (some ⟨w2.heap.size, 0, none⟩) t.length t.length (bR.flat (List.replicate t.length false)) := OwnZ.of_row (by have h := hown; simp only [Value.cells, toList_madeCells_one] at h; rw [flatB_zero] at h; simpa using h)
    have k3 : Kept 0 0 w2 w3 := (Kept.refl 0 0 w2).drew.trans (Kept.of_grown (lo := 0) (hi := 0) hgr (by intro k hk; cases hk))
    have z3 := k3.size
    have OB3 := Lib.hid (OB.wide (lo' := w.heap.size) (hi' := w3.heap.size) (by omega) (Nat.le_refl _))
    have R3 := Lib.hid (R2.out.kept k3 (.inl (Nat.le_refl _)))
    have C3 := Lib.hid (C2.out.kept k3 (.inl (Nat.le_refl _)))
    have K3 := Lib.hid (K2.out.trans (k3.wide (.inl (Nat.le_refl _))))
    have T3 := Lib.hid ((T2.out.kept k3 (.inl (Nat.le_refl _))).wide (Nat.le_refl _) z3)
    have r0 := bs0 R3.out
    have r1 := bs1 R3.out
    have f0 := R3.out.frozen 0
    have f1 := R3.out.frozen 1
    clear hown hgr OB k3 R2 C2 K2 T2
    go_upto_region 3 with fail
    go_region
    obtain ⟨s0, hs0⟩ : ∃ s0 : Spr, s0 = ⟨List.replicate t.length false, []⟩ := ⟨_, rfl⟩
    have e1 : t.length = s0.told.length := by rw [hs0]; simp
    have e2 : 0 = s0.work.length := by rw [hs0]; rfl
    have OB4 : Hid (OwnZ w3 w.heap.size w3.heap.size 4 1 (some ⟨w2.heap.size, 0, none⟩) t.length t.length (bR.flat s0.told)) := by rw [hs0]; exact OB3
    have OW : Hid (OwnZ w3 w.heap.size w3.heap.size 2 1 none 0 0 (iR.flat s0.work)) := by rw [hs0]; exact ⟨⟨rfl, .inl ⟨rfl, rfl⟩⟩, by intro ad h; cases h⟩
    have E1 := Lib.hid e1
    have E2 := Lib.hid e2
    clear e1 e2 hs0 r0 r1 f0 f1 OB3
    go_wp2_with fail
    obtain ⟨R, hO⟩ := fin_ts (s := s0) E1.out E2.out tl (by rw [← E1.out]; omega) (by rw [← E2.out]; omega) hg R3.out OB4.out OW.out T3.out C3.out K3.out rfl
    exact bodyPost_ret (results_any7 _ _ w.heap.size _ _ _ rfl rfl R) rfl hO
  have OT := Lib.hid (treeB_true.1 q1)
  clear q1
  have TN : OwnNd w2 w.heap.size w2.heap.size (.slice D t.length d) t := ⟨D, d, rfl, T2.out⟩
  go_upto_region 4 with fail
  go_wp2_with fail
  with_reducible refine (draw7_any xs A c g w.heap.size w2.heap.size D d t w2 C2.out TN hg (Nat.le_refl _) OT.out tp).mono ?_
  rintro e w3 ⟨s, _, rfl, ho, ⟨_, _, rfl, ⟨D1, d1, rfl, o1⟩, ⟨D2, d2, rfl, o2⟩⟩, hc, hk⟩
  have z3 := hk.size
  obtain ⟨b, hb'⟩ : ∃ b, b = w3.heap.size := ⟨_, rfl⟩
  obtain ⟨V, hV⟩ : ∃ V, V = w3.alloc (.cells #[.slice D1 s.told.length d1, .slice D2 s.work.length d2] 31) := ⟨_, rfl⟩
  have kV : Kept 0 0 w3 V := by rw [hV]; exact Kept.alloc0 _ _
  have zV := kV.size
  have HS := Lib.hid ho
  have S3 : Hid (St8 w V g A c xs D d t b D1 d1 D2 d2 s) := by
    have h1 := ho.told
    have h2 := ho.cap
    refine ⟨tl, by omega, by omega, by rw [hV, hb']; exact Blk.new _ _ _, (o1.kept kV (.inl (Nat.le_refl _))).wide (by omega) zV, (o2.kept kV (.inl (Nat.le_refl _))).wide (by omega) zV, (R2.out.kept hk (by omega)).kept kV (.inl (Nat.le_refl _)), ((T2.out.kept hk (by omega)).kept kV (.inl (Nat.le_refl _))).wide (Nat.le_refl _) (by omega), hc.kept kV (.inl (Nat.le_refl _)), (K2.out.trans hk).trans (kV.wide (.inl (Nat.le_refl _)))⟩
  have hb : w.heap.size < b := by omega
  have HV := Lib.hid hV
  have HB := Lib.hid hb'
  clear hV hb' kV o1 o2 hc hk ho R2 C2 T2 K2
  go_upto_region 5 with fail
  rw [← HV.out, ← HB.out]
  clear HV HB
  go_wp2_with fail
  with_reducible refine (once_any _ _ _ _ _ _ S3.out.cur (by omega) (by omega)).mono ?_
  rintro e w4 ⟨bo, rfl, hc, hk⟩
  have S4 := Lib.hid (S3.out.draw hg hb hc hk)
  clear hc hk S3
  cases bo with
  | false =>
    have b0 := bs0 S4.out.box
    have b1 := bs1 S4.out.box
    have r0 := bs0 S4.out.res
    have r1 := bs1 S4.out.res
    have f0 := S4.out.res.frozen 0
    have f1 := S4.out.res.frozen 1
    go_upto_region 13 with fail
    go_region
    clear b0 b1 r0 r1 f0 f1
    go_wp2_with fail
    obtain ⟨R, hO⟩ := fin_ts (s := s) rfl rfl S4.out.tl S4.out.tn S4.out.wn hg S4.out.res S4.out.o1 S4.out.o2 S4.out.tree S4.out.cur S4.out.kept rfl
    exact bodyPost_ret (results_any7 _ _ w.heap.size (.slice D t.length d) _ _ rfl rfl R.drew) rfl hO.drew
  | true =>
    go_wp2_with fail
    with_reducible refine (below_any _ _ _ _ _ _ S4.out.cur (by omega) (by omega)).mono ?_
    rintro e w5 ⟨r, rfl, ⟨hr0, hr1⟩, hc, hk⟩
    have S5 := Lib.hid (S4.out.draw hg hb hc hk)
    have tn : s.told.length ≤ 60 := by have := HS.out.told; omega
    have wn := HS.out.cap
    clear hc hk S4
    rcases (by omega : r = 0 ∨ r = 1 ∨ r = 2) with rfl | rfl | rfl
    · have b0 := bs0 S5.out.box
      go_upto_region 8 with fail
      go_upto_region 13 with (at_builtin; refine wpList_app (R := bR) rfl (.tmp 26) (.tmp 27) rfl HT.out w.heap.size D1 d1 s.told rfl (row_kept S5.out.o1.1 (Kept.alloc0 w5 (.cells #[.bool true] 4))) (w5.heap.size + 1) (some ⟨w5.heap.size, 0, none⟩) 1 [true] rfl (rd_litB w5 true) (by simp [maxLen]; omega) (by simp; omega) (by have := S5.out.kept.size; (simp; omega)) ?_; intro D3 d3 w7 hown hgrow hat; obtain ⟨ts, hts⟩ : ∃ ts, ts = s.told ++ [true] := ⟨_, rfl⟩; have tl7 : ts.length = s.told.length + 1 := (by rw [hts]; simp); rw [← hts] at hown ⊢; have HG := Lib.hid hgrow; have HN := Lib.hid hown; have bx7 := blk_row (S5.out.box.kept (Kept.alloc0 w5 (.cells #[.bool true] 4)) (.inl (Nat.le_refl _))) (S5.out.o1.kept (Kept.alloc0 w5 (.cells #[.bool true] 4)) (.inl (Nat.le_refl _))) (by decide) (kept_app hgrow); have b70 := bs0 bx7; have f70 := bx7.frozen 0; have HL := Lib.hid tl7; clear hown hgrow hat hts bx7 tl7)
      clear b0 b70 f70
      obtain ⟨F, hF⟩ : ∃ F, F = w7.setCell ⟨b, 0, none⟩ (.slice D3 ts.length d3) := ⟨_, rfl⟩
      have SF := Lib.hid (S5.out.told1 hg hb (by omega) HL.out HN.out HG.out hF)
      rw [← hF]
      clear hF S5 HL HN HG
      have b0 := bs0 SF.out.box
      have b1 := bs1 SF.out.box
      have r0 := bs0 SF.out.res
      have r1 := bs1 SF.out.res
      have f0 := SF.out.res.frozen 0
      have f1 := SF.out.res.frozen 1
      go_upto_region 13 with fail
      go_region
      clear b0 b1 r0 r1 f0 f1
      go_wp2_with fail
      obtain ⟨R, hO⟩ := fin_ts (s := ⟨ts, s.work⟩) rfl rfl SF.out.tl SF.out.tn SF.out.wn hg SF.out.res SF.out.o1 SF.out.o2 SF.out.tree SF.out.cur SF.out.kept rfl
      exact bodyPost_ret (results_any7 _ _ w.heap.size (.slice D t.length d) _ _ rfl rfl R.drew) rfl hO.drew
    · obtain ⟨WL, hWL⟩ : ∃ n, n = (t.length : Int) := ⟨_, rfl⟩
      have b1 := bs1 S5.out.box
      have CB := Lib.hid (from_any xs A c g (-1) (t.length : Int) w5.drew (S5.out.cur.kept (Kept.refl 0 0 w5).drew (.inl (Nat.le_refl _))) (by omega) (by omega) (by omega) (by omega))
      clear hWL
      go_upto_region 10 with fail
      go_region_law (first
        | (go_simp; go_at_call 70; (with_reducible refine CB.out.mono ?_); rintro e w6 ⟨x, rfl, -, hc, hk⟩; have k6 := Lib.hid ((Kept.refl g (g + 1) w5).drew.trans hk); have S6 := Lib.hid (S5.out.draw hg hb hc k6.out); have b61 := bs1 S6.out.box; have b62 := bs1 (S6.out.box.alloc (.cells #[.int .i64 x] 2)); clear hc hk)
        | (refine step_app (R := iR) rfl (.tmp 33) (.tmp 38) rfl HI.out w.heap.size D2 d2 s.work rfl (row_kept S6.out.o2.1 (Kept.alloc0 w6 (.cells #[.int .i64 x] 2))) (w6.heap.size + 1) (some ⟨w6.heap.size, 0, none⟩) 1 [x] rfl (rd_litI w6 x) (by simp [maxLen]; omega) (by simp; omega) (by have := S6.out.kept.size; (simp; omega)) ?_; intro D3 d3 w7 hown hgrow hat; obtain ⟨ts, hts⟩ : ∃ ts, ts = s.work ++ [x] := ⟨_, rfl⟩; have tl7 : ts.length = s.work.length + 1 := (by rw [hts]; simp); rw [← hts] at hown ⊢; have HG := Lib.hid hgrow; have HN := Lib.hid hown; have bx7 := blk_row (S6.out.box.kept (Kept.alloc0 w6 (.cells #[.int .i64 x] 2)) (.inl (Nat.le_refl _))) (S6.out.o2.kept (Kept.alloc0 w6 (.cells #[.int .i64 x] 2)) (.inl (Nat.le_refl _))) (by decide) (kept_app hgrow); have b71 := bs1 bx7; have f71 := bx7.frozen 1; have HL := Lib.hid tl7; clear hown hgrow hat hts bx7 tl7))
      all_goals
        clear b1 b61 b62 b71 f71 CB
        obtain ⟨F, hF⟩ : ∃ F, F = w7.setCell ⟨b, 1, none⟩ (.slice D3 ts.length d3) := ⟨_, rfl⟩
        have SF := Lib.hid (S6.out.work1 hg hb (by omega) HL.out HN.out HG.out hF)
        rw [← hF]
        clear hF S6 S5 HL HN HG k6
        have b0 := bs0 SF.out.box
        have b1 := bs1 SF.out.box
        have r0 := bs0 SF.out.res
        have r1 := bs1 SF.out.res
        have f0 := SF.out.res.frozen 0
        have f1 := SF.out.res.frozen 1
        go_upto_region 13 with fail
        go_region
        clear b0 b1 r0 r1 f0 f1
        go_wp2_with fail
        obtain ⟨R, hO⟩ := fin_ts (s := ⟨s.told, ts⟩) rfl rfl SF.out.tl SF.out.tn SF.out.wn hg SF.out.res SF.out.o1 SF.out.o2 SF.out.tree SF.out.cur SF.out.kept rfl
        exact bodyPost_ret (results_any7 _ _ w.heap.size (.slice D t.length d) _ _ rfl rfl R.drew) rfl hO.drew
    · obtain ⟨x1, rfl⟩ : ∃ x1, D1 = some ⟨x1, 0, none⟩ := by
        rcases S5.out.o1.form with ⟨_, h0, _⟩ | ⟨x1, h1, _⟩
        · exfalso; have := HS.out.told; omega
        · exact ⟨x1, h1⟩
      have b0 := bs0 S5.out.box
      have CB := Lib.hid (below_any xs A c g (t.length : Int) w5.drew (S5.out.cur.kept (Kept.refl 0 0 w5).drew (.inl (Nat.le_refl _))) (by omega) (by omega))
      go_upto_region 12 with fail
      go_region_law (first
        | (go_simp; go_at_call 62; (with_reducible refine CB.out.mono ?_); rintro e w6 ⟨n, rfl, ⟨hn0, hn1⟩, hc, hk⟩; have k6 := Lib.hid ((Kept.refl g (g + 1) w5).drew.trans hk); have S6 := Lib.hid (S5.out.draw hg hb hc k6.out); have b60 := bs0 S6.out.box; obtain ⟨j, rfl⟩ := Int.eq_ofNat_of_zero_le hn0; have hj : j < s.told.length := (by have := HS.out.told; omega); have i1 : (j : Int) < (s.told.length : Int) := (by omega); have CO := Lib.hid (once_any xs A c g 2 w6 S6.out.cur (by omega) (by omega)); clear hc hk)
        | (go_simp; go_at_call 60; (with_reducible refine CO.out.mono ?_); rintro e w7 ⟨q, rfl, hc, hk⟩; have S7 := Lib.hid (S6.out.draw hg hb hc hk); have b70 := bs0 S7.out.box; have c7 : w7.cell? ⟨x1, j, none⟩ = some (.bool s.told[j]) := (by have := own_at (R := bR) S7.out.o1.1 hj 0 (u := .bool s.told[j]) rfl; rwa [bR_k, Nat.mul_one, Nat.add_zero] at this); have f7 : w7.frozen? ⟨x1, j, none⟩ = false := S7.out.o1.1.frozenAt _; clear hc hk))
      all_goals
        clear b0 b60 b70 c7 f7 CB CO
        obtain ⟨F, hF⟩ : ∃ F, F = w7.setCell ⟨x1, j, none⟩ (.bool q) := ⟨_, rfl⟩
        have SF := Lib.hid (S7.out.toldSet hg hb j q hF)
        have EL : Hid ((s.told.set j q).length = s.told.length) := by show _ = _; simp
        rw [← hF]
        clear hF S7 S6 S5 k6
        obtain ⟨ts, hts⟩ : ∃ ts, ts = s.told.set j q := ⟨_, rfl⟩
        rw [← hts] at SF
        clear hts EL
        have b0 := bs0 SF.out.box
        have b1 := bs1 SF.out.box
        have r0 := bs0 SF.out.res
        have r1 := bs1 SF.out.res
        have f0 := SF.out.res.frozen 0
        have f1 := SF.out.res.frozen 1
        go_upto_region 13 with fail
        go_region
        clear b0 b1 r0 r1 f0 f1
        go_wp2_with fail
        obtain ⟨R, hO⟩ := fin_ts (s := ⟨ts, s.work⟩) rfl rfl SF.out.tl SF.out.tn SF.out.wn hg SF.out.res SF.out.o1 SF.out.o2 SF.out.tree SF.out.cur SF.out.kept rfl
        exact bodyPost_ret (results_any7 _ _ w.heap.size (.slice D t.length d) _ _ rfl rfl R.drew) rfl hO.drew

end Go.Proofs.Ytlfbmjfbebbdlaa
