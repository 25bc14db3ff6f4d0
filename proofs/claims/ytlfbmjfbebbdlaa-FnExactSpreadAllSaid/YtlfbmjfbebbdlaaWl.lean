/- The exact law of SpreadOk returns true for every tree and spread that can be read; condition: the contract of the program's function. -/
import Derived.Test.YtlfbmjfbebbdlaaWg
namespace Go.Proofs.Ytlfbmjfbebbdlaa
open Go.RowKit Go.Sort

abbrev DoesSpreadOk : Prop := ∀ (t : List Nd) (s : Spr) (v u : Value) (w : World), RdNd w w.heap.size v t → RdS w w.heap.size u s →
    Calls Try.prog 24 #[v, u] w fun e w' => e = .returned (.bool (spreadB t s)) ∧ Kept 0 0 w w'

set_option maxHeartbeats 6400000 in
theorem lawSpreadOk_small (D : DoesSpreadOk) (t : List Nd) (s : Spr) (v u : Value) (w : World) (ha : RdNd w w.heap.size v t) (hb : RdS w w.heap.size u s) (hn : t.length + s.told.length + s.work.length ≤ 1048576) :
    Calls Try.prog 5 #[v, u] w fun e w' => e = .returned (.bool true) ∧ Kept 0 0 w w' := by
  have Ha := Lib.hid ha
  obtain ⟨hv, lv, rfl, ⟨A1, q1, rfl, s2⟩, ⟨A2, q2, rfl, s3⟩⟩ := hb
  have Hb : Hid (RdS w w.heap.size (.agg #[.slice A1 s.told.length q1, .slice A2 s.work.length q2]) s) := ⟨_, _, rfl, ⟨A1, q1, rfl, s2⟩, ⟨A2, q2, rfl, s3⟩⟩
  clear s2 s3 ha
  have han : t.length ≤ 1048576 := by omega
  have hbt : s.told.length ≤ 1048576 := by omega
  have hbw : s.work.length ≤ 1048576 := by omega
  have Ea : Hid (szF (1048576) t.length = 1048576 - t.length) := szF_pos (by omega)
  go_enter Try.func5, Try.ntmps5
  go_wp2_with fail
  obtain ⟨w1, hw⟩ : ∃ w1, w1 = w.alloc (.cells #[.slice A1 s.told.length q1, .slice A2 s.work.length q2] 43) := ⟨_, rfl⟩
  have hk : Kept 0 0 w w1 := by rw [hw]; exact Kept.alloc0 _ _
  have Na : Hid (Blk w1 w.heap.size 43 #[.slice A1 s.told.length q1, .slice A2 s.work.length q2]) := by show Blk _ _ _ _; rw [hw]; exact Blk.new _ _ _
  rw [← hw]
  have Ba := Na
  clear Na
  have y1 := Ba.out.lt
  have K1 := Lib.hid ((Kept.refl 0 0 w).trans hk)
  have z1 := hk.size
  clear hk hw
  have SZ : Hid ((0 : Int) ≤ 1048576 - t.length - s.told.length - s.work.length) := by show _ ≤ _; omega
  have sz := SZ.out
  with_reducible refine (szNd t _ _ _ _ (Ha.out.up K1.out) (by omega) (by omega)).mono ?_
  rintro e w' ⟨rfl, rfl⟩
  rw [Ea.out]
  have ca0 := bs0 Ba.out
  have ca1 := bs1 Ba.out
  go_wp2_with fail
  clear ca0 ca1
  with_reducible refine (szS_pos s _ _ _ _ (Hb.out.up K1.out) (by omega) (by omega)).mono ?_
  rintro e w2 ⟨rfl, hk⟩
  have Ra := Lib.hid (Ba.out.kept hk (.inl (Nat.le_refl _)))
  clear Ba
  have Ba := Ra
  clear Ra
  have K2 := Lib.hid (K1.out.trans hk)
  have z2 := hk.size
  clear hk K1
  go_upto_region 8 with fail
  go_region_held3 (fun w' => w'.cell? ⟨w.heap.size, 0, none⟩ = some (.slice A1 s.told.length q1) ∧ w'.cell? ⟨w.heap.size, 1, none⟩ = some (.slice A2 s.work.length q2))
    (first | with_reducible exact ⟨bs0 Ba.out.drew, bs1 Ba.out.drew⟩ | with_reducible exact ⟨bs0 X1, bs1 X1⟩ | with_reducible exact ⟨bs0 X2, bs1 X2⟩ | with_reducible exact ⟨bs0 X3, bs1 X3⟩)
    (first | (go_at_call 22; (with_reducible refine (toNd t v w2.drew (Ha.out.up K2.out.drew) han).mono ?_); rintro e w3 ⟨u1, rfl, o1, hk⟩; have k1 : Kept 0 0 w2 w3 := (Kept.refl 0 0 w2).drew.trans hk; have X1 := Ba.out.kept k1 (.inl (Nat.le_refl _)); clear hk) | (go_at_call 23; (with_reducible refine (toS s _ w3 (Hb.out.up (K2.out.trans k1)) hbt hbw).mono ?_); rintro e w4 ⟨u2, rfl, p2, hk⟩; have o2 := o1.kept hk (.inl (Nat.le_refl _)); have k2 : Kept 0 0 w2 w4 := k1.trans hk; have z2 := hk.size; have X2 := Ba.out.kept k2 (.inl (Nat.le_refl _)); clear hk) | (go_at_call 19; (with_reducible refine (ok7_any t s _ _ w4 (o2.rdW z2) (p2.rdW (Nat.le_refl _))).mono ?_); rintro e w5 ⟨rfl, hk⟩; have k3 : Kept 0 0 w2 w5 := k2.trans hk; have X3 := Ba.out.kept k3 (.inl (Nat.le_refl _)); have ks := Lib.hid k3; clear hk))
  clear X1 X2 X3 k1 k2 k3 o1 o2 p2 z2
  have Ra := Lib.hid (Ba.out.kept ks.out (.inl (Nat.le_refl _)))
  clear Ba
  have Ba := Ra
  clear Ra
  have K5 := Lib.hid (K2.out.trans ks.out)
  have z5 := ks.out.size
  clear ks K2
  go_wp2_with fail
  with_reducible refine (toNd t v _ (Ha.out.up K5.out) han).mono ?_
  rintro e w6 ⟨ux, rfl, ho, hk⟩
  have Ra := Lib.hid (Ba.out.kept hk (.inl (Nat.le_refl _)))
  clear Ba
  have Ba := Ra
  clear Ra
  have Ox := Lib.hid ho
  have K6 := Lib.hid (K5.out.trans hk)
  have z6 := hk.size
  clear hk ho K5
  have ca0 := bs0 Ba.out
  have ca1 := bs1 Ba.out
  go_wp2_with fail
  clear ca0 ca1
  with_reducible refine (toS s _ _ (Hb.out.up K6.out) hbt hbw).mono ?_
  rintro e w7 ⟨_, rfl, ⟨_, _, rfl, ⟨DAy, dAy, rfl, oa⟩, ⟨DBy, dBy, rfl, ob⟩⟩, hk⟩
  have Px := Lib.hid (Ox.out.kept hk (.inl (Nat.le_refl _)))
  have Ra := Lib.hid (Ba.out.kept hk (.inl (Nat.le_refl _)))
  clear Ox
  have Ox := Px
  clear Px
  clear Ba
  have Ba := Ra
  clear Ra
  have Oy : Hid (OwnS w7 w6.heap.size w7.heap.size (.agg #[.slice DAy s.told.length dAy, .slice DBy s.work.length dBy]) s) := ⟨_, _, rfl, ⟨DAy, dAy, rfl, oa⟩, ⟨DBy, dBy, rfl, ob⟩⟩
  have K7 := Lib.hid (K6.out.trans hk)
  have z7 := hk.size
  clear hk oa ob K6
  go_wp2_with fail
  obtain ⟨w8, hw⟩ : ∃ w8, w8 = w7.alloc (.cells #[.slice DAy s.told.length dAy, .slice DBy s.work.length dBy] 31) := ⟨_, rfl⟩
  have hk : Kept 0 0 w7 w8 := by rw [hw]; exact Kept.alloc0 _ _
  have Nx : Hid (Blk w8 w7.heap.size 31 #[.slice DAy s.told.length dAy, .slice DBy s.work.length dBy]) := by show Blk _ _ _ _; rw [hw]; exact Blk.new _ _ _
  rw [← hw]
  have Px := Lib.hid (Ox.out.kept hk (.inl (Nat.le_refl _)))
  have Py := Lib.hid (Oy.out.kept hk (.inl (Nat.le_refl _)))
  have Ra := Lib.hid (Ba.out.kept hk (.inl (Nat.le_refl _)))
  clear Ox
  have Ox := Px
  clear Px
  clear Oy
  have Oy := Py
  clear Py
  clear Ba
  have Ba := Ra
  clear Ra
  have Bx := Nx
  clear Nx
  have y8 := Bx.out.lt
  have K8 := Lib.hid (K7.out.trans hk)
  have z8 := hk.size
  clear hk hw K7
  with_reducible refine (D t s _ _ _ (Ox.out.rdW (by omega)) (Oy.out.rdW (by omega))).mono ?_
  rintro e w9 ⟨rfl, hk⟩
  have Px := Lib.hid (Ox.out.kept hk (.inl (Nat.le_refl _)))
  have Py := Lib.hid (Oy.out.kept hk (.inl (Nat.le_refl _)))
  have Ra := Lib.hid (Ba.out.kept hk (.inl (Nat.le_refl _)))
  have Rx := Lib.hid (Bx.out.kept hk (.inl (Nat.le_refl _)))
  clear Ox
  have Ox := Px
  clear Px
  clear Oy
  have Oy := Py
  clear Py
  clear Ba
  have Ba := Ra
  clear Ra
  clear Bx
  have Bx := Rx
  clear Rx
  have K9 := Lib.hid (K8.out.trans hk)
  have z9 := hk.size
  clear hk K8
  obtain ⟨bb, hbb⟩ : ∃ bb, bb = spreadB t s := ⟨_, rfl⟩
  rw [← hbb]
  clear hbb
  have qq : (bb != bb) = false := by simp
  go_wp2_with fail
  with_reducible refine (toNd t v _ (Ha.out.up K9.out) han).mono ?_
  rintro e w10 ⟨up, rfl, ho, hk⟩
  have Px := Lib.hid (Ox.out.kept hk (.inl (Nat.le_refl _)))
  have Py := Lib.hid (Oy.out.kept hk (.inl (Nat.le_refl _)))
  have Ra := Lib.hid (Ba.out.kept hk (.inl (Nat.le_refl _)))
  have Rx := Lib.hid (Bx.out.kept hk (.inl (Nat.le_refl _)))
  clear Ox
  have Ox := Px
  clear Px
  clear Oy
  have Oy := Py
  clear Py
  clear Ba
  have Ba := Ra
  clear Ra
  clear Bx
  have Bx := Rx
  clear Rx
  have Op := Lib.hid ho
  have K10 := Lib.hid (K9.out.trans hk)
  have z10 := hk.size
  clear hk ho K9
  go_wp2_with fail
  with_reducible refine (eqNd (t) _ _ _ (Ox.out.rdW (by omega)) (Op.out.rdW (by omega))).mono ?_
  rintro e w11 ⟨rfl, hk⟩
  have Px := Lib.hid (Ox.out.kept hk (.inl (Nat.le_refl _)))
  have Py := Lib.hid (Oy.out.kept hk (.inl (Nat.le_refl _)))
  have Pp := Lib.hid (Op.out.kept hk (.inl (Nat.le_refl _)))
  have Ra := Lib.hid (Ba.out.kept hk (.inl (Nat.le_refl _)))
  have Rx := Lib.hid (Bx.out.kept hk (.inl (Nat.le_refl _)))
  clear Ox
  have Ox := Px
  clear Px
  clear Oy
  have Oy := Py
  clear Py
  clear Op
  have Op := Pp
  clear Pp
  clear Ba
  have Ba := Ra
  clear Ra
  clear Bx
  have Bx := Rx
  clear Rx
  have K11 := Lib.hid (K10.out.trans hk)
  have z11 := hk.size
  clear hk K10
  clear Op
  clear Ox
  go_upto_region 16 with fail
  go_region_held3 (fun w' => w'.cell? ⟨w7.heap.size, 0, none⟩ = some (.slice DAy s.told.length dAy) ∧ w'.cell? ⟨w7.heap.size, 1, none⟩ = some (.slice DBy s.work.length dBy) ∧ w'.cell? ⟨w.heap.size, 0, none⟩ = some (.slice A1 s.told.length q1) ∧ w'.cell? ⟨w.heap.size, 1, none⟩ = some (.slice A2 s.work.length q2))
    (first | with_reducible exact ⟨bs0 Bx.out.drew, bs1 Bx.out.drew, bs0 Ba.out.drew, bs1 Ba.out.drew⟩ | with_reducible exact ⟨bs0 Xx, bs1 Xx, bs0 Xa, bs1 Xa⟩ | with_reducible exact ⟨bs0 Yx, bs1 Yx, bs0 Ya, bs1 Ya⟩)
    (first | (go_at_call 23; (with_reducible refine (toS s _ w11.drew (Hb.out.up K11.out.drew) hbt hbw).mono ?_); rintro e w12 ⟨u1, rfl, oy, hk⟩; have k1 : Kept 0 0 w11 w12 := (Kept.refl 0 0 w11).drew.trans hk; have Xx := Bx.out.kept k1 (.inl (Nat.le_refl _)); have Xa := Ba.out.kept k1 (.inl (Nat.le_refl _)); have zz := k1.size; clear hk) | (go_at_call 26; (with_reducible refine (eqS s _ _ w12 ((Oy.out.kept k1 (.inl (Nat.le_refl _))).rdW (by omega)) (oy.rdW (Nat.le_refl _))).mono ?_); rintro e w13 ⟨rfl, hk⟩; have k2 : Kept 0 0 w11 w13 := k1.trans hk; have Yx := Bx.out.kept k2 (.inl (Nat.le_refl _)); have Ya := Ba.out.kept k2 (.inl (Nat.le_refl _)); have ks := Lib.hid k2; clear hk))
  clear Xx Xa Yx Ya k1 k2 oy zz
  have Py := Lib.hid (Oy.out.kept ks.out (.inl (Nat.le_refl _)))
  have Ra := Lib.hid (Ba.out.kept ks.out (.inl (Nat.le_refl _)))
  have Rx := Lib.hid (Bx.out.kept ks.out (.inl (Nat.le_refl _)))
  clear Oy
  have Oy := Py
  clear Py
  clear Ba
  have Ba := Ra
  clear Ra
  clear Bx
  have Bx := Rx
  clear Rx
  have K13 := Lib.hid (K11.out.trans ks.out)
  have z13 := ks.out.size
  clear ks K11
  go_wp2_with fail
  go_ret
  exact ⟨rfl, K13.out⟩
end Go.Proofs.Ytlfbmjfbebbdlaa
