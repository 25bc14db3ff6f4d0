/- The exact law of Grown returns true for every slice that can be read and every node; no condition. -/
import Derived.Test.YtakhegamlammcaaNl
import Derived.Test.YtakhegamlammcaaNg
namespace Go.Proofs.Ytakhegamlammcaa
open Go.RowKit Go.Sort

set_option maxHeartbeats 6400000 in
theorem lawGrown_small (t : List Nd) (x : Nd) (v : Value) (w : World) (ha : RdNd w w.heap.size v t) (hn : t.length ≤ 1048576) :
    Calls Try.prog 6 #[v, .agg #[.int .i64 x.kind, .int .i64 x.up, .int .i64 x.due, .int .i64 x.key, .int .i64 x.value]] w fun e w' => e = .returned (.bool true) ∧ Kept 0 0 w w' := by
  have Ha := Lib.hid ha
  have han : t.length ≤ 1048576 := by omega
  clear ha
  have Ea : Hid (szF (1048576) t.length = 1048576 - t.length) := szF_pos (by omega)
  have gl : (grownL t x).length ≤ 61 := grownL_len t x
  go_enter Try.func6, Try.ntmps6
  go_wp2_with fail
  obtain ⟨w1, hw⟩ : ∃ w1, w1 = w.alloc (.cells #[.int .i64 x.kind, .int .i64 x.up, .int .i64 x.due, .int .i64 x.key, .int .i64 x.value] 44) := ⟨_, rfl⟩
  have hk : Kept 0 0 w w1 := by rw [hw]; exact Kept.alloc0 _ _
  have Na : Hid (Blk w1 w.heap.size 44 #[.int .i64 x.kind, .int .i64 x.up, .int .i64 x.due, .int .i64 x.key, .int .i64 x.value]) := by show Blk _ _ _ _; rw [hw]; exact Blk.new _ _ _
  rw [← hw]
  have Ba := Na
  clear Na
  have y1 := Ba.out.lt
  have K1 := Lib.hid ((Kept.refl 0 0 w).trans hk)
  have z1 := hk.size
  clear hk hw
  have HA1 := Lib.hid (Ha.out.up K1.out)
  with_reducible refine (szNd t _ _ _ _ HA1.out (by omega) (by omega)).mono ?_
  rintro e w' ⟨rfl, rfl⟩
  rw [Ea.out]
  clear HA1
  go_upto_region 5 with fail
  go_region_held3 (fun w' => w'.cell? ⟨w.heap.size, 0, none⟩ = some (.int .i64 x.kind) ∧ w'.cell? ⟨w.heap.size, 1, none⟩ = some (.int .i64 x.up) ∧ w'.cell? ⟨w.heap.size, 2, none⟩ = some (.int .i64 x.due) ∧ w'.cell? ⟨w.heap.size, 3, none⟩ = some (.int .i64 x.key) ∧ w'.cell? ⟨w.heap.size, 4, none⟩ = some (.int .i64 x.value))
    (first | with_reducible exact ⟨by0 Ba.out.drew, by1 Ba.out.drew, by2 Ba.out.drew, by3 Ba.out.drew, by4 Ba.out.drew⟩ | with_reducible exact ⟨by0 X1, by1 X1, by2 X1, by3 X1, by4 X1⟩ | with_reducible exact ⟨by0 X2, by1 X2, by2 X2, by3 X2, by4 X2⟩ | with_reducible exact ⟨by0 X3, by1 X3, by2 X3, by3 X3, by4 X3⟩)
    (first | (go_at_call 24; (with_reducible refine (toNd t v w1.drew (Ha.out.up K1.out.drew) han).mono ?_); rintro e w2 ⟨u1, rfl, o1, hk⟩; have k1 : Kept 0 0 w1 w2 := (Kept.refl 0 0 w1).drew.trans hk; have X1 := Ba.out.kept k1 (.inl (Nat.le_refl _)); clear hk) | (go_at_call 27; (with_reducible refine (toNd1_any x w2).mono ?_); rintro e w3 ⟨rfl, hk⟩; have o2 := o1.kept hk (.inl (Nat.le_refl _)); have k2 : Kept 0 0 w1 w3 := k1.trans hk; have z2 := hk.size; have X2 := Ba.out.kept k2 (.inl (Nat.le_refl _)); clear hk) | (go_at_call 26; (with_reducible refine (grown5_any t x u1 w3 (o2.rdW z2)).mono ?_); rintro e w4 ⟨uW, rfl, ho, hk⟩; have k3 : Kept 0 0 w1 w4 := k2.trans hk; have X3 := Ba.out.kept k3 (.inl (Nat.le_refl _)); have ks := Lib.hid k3; have zz := hk.size; have z3 := k2.size; have OO := Lib.hid ho; clear hk))
  clear X1 X2 X3 k1 k2 k3 o1 o2 z2 ho
  have Ra := Lib.hid (Ba.out.kept ks.out (.inl (Nat.le_refl _)))
  clear Ba
  have Ba := Ra
  clear Ra
  have OW := OO
  clear OO
  have K4 := Lib.hid (K1.out.trans ks.out)
  have z4 := ks.out.size
  clear ks K1
  go_wp2_with fail
  with_reducible refine (toNd t v _ (Ha.out.up K4.out) han).mono ?_
  rintro e w5 ⟨ux, rfl, ho, hk⟩
  have PW := Lib.hid (OW.out.kept hk (.inl (Nat.le_refl _)))
  have Ra := Lib.hid (Ba.out.kept hk (.inl (Nat.le_refl _)))
  clear OW
  have OW := PW
  clear PW
  clear Ba
  have Ba := Ra
  clear Ra
  have Ox := Lib.hid ho
  have K5 := Lib.hid (K4.out.trans hk)
  have z5 := hk.size
  clear hk ho K4
  have ca0 := Ba.out.cell 0
  have ca1 := Ba.out.cell 1
  have ca2 := Ba.out.cell 2
  have ca3 := Ba.out.cell 3
  have ca4 := Ba.out.cell 4
  go_wp2_with fail
  clear ca0 ca1 ca2 ca3 ca4
  with_reducible refine (toNd1_any x _).mono ?_
  rintro e w6 ⟨rfl, hk⟩
  have PW := Lib.hid (OW.out.kept hk (.inl (Nat.le_refl _)))
  have Px := Lib.hid (Ox.out.kept hk (.inl (Nat.le_refl _)))
  have Ra := Lib.hid (Ba.out.kept hk (.inl (Nat.le_refl _)))
  clear OW
  have OW := PW
  clear PW
  clear Ox
  have Ox := Px
  clear Px
  clear Ba
  have Ba := Ra
  clear Ra
  have K6 := Lib.hid (K5.out.trans hk)
  have z6 := hk.size
  clear hk K5
  go_wp2_with fail
  with_reducible refine (implGrown t x _ _ (Ox.out.rdW (by omega))).mono ?_
  rintro e w7 ⟨uG, rfl, ho, hk⟩
  have PW := Lib.hid (OW.out.kept hk (.inl (Nat.le_refl _)))
  have Px := Lib.hid (Ox.out.kept hk (.inl (Nat.le_refl _)))
  have Ra := Lib.hid (Ba.out.kept hk (.inl (Nat.le_refl _)))
  clear OW
  have OW := PW
  clear PW
  clear Ox
  have Ox := Px
  clear Px
  clear Ba
  have Ba := Ra
  clear Ra
  have OG := Lib.hid ho
  have K7 := Lib.hid (K6.out.trans hk)
  have z7 := hk.size
  clear hk ho K6
  obtain ⟨zs, hzs⟩ : ∃ zs, zs = grownL t x := ⟨_, rfl⟩
  rw [← hzs] at OW OG gl
  have HZ := Lib.hid hzs
  clear hzs
  obtain ⟨bb, hbb⟩ : ∃ bb, bb = grownI t x := ⟨_, rfl⟩
  rw [← hbb]
  have HB := Lib.hid hbb
  clear hbb
  have q1 : (bb != bb) = false := by simp
  go_wp2_with fail
  with_reducible refine (eqNd (zs) _ _ _ (OG.out.rdW (by omega)) (OW.out.rdW (by omega))).mono ?_
  rintro e w8 ⟨rfl, hk⟩
  have PW := Lib.hid (OW.out.kept hk (.inl (Nat.le_refl _)))
  have Px := Lib.hid (Ox.out.kept hk (.inl (Nat.le_refl _)))
  have PG := Lib.hid (OG.out.kept hk (.inl (Nat.le_refl _)))
  have Ra := Lib.hid (Ba.out.kept hk (.inl (Nat.le_refl _)))
  clear OW
  have OW := PW
  clear PW
  clear Ox
  have Ox := Px
  clear Px
  clear OG
  have OG := PG
  clear PG
  clear Ba
  have Ba := Ra
  clear Ra
  have K8 := Lib.hid (K7.out.trans hk)
  have z8 := hk.size
  clear hk K7
  go_wp2_with fail
  with_reducible refine (toNd t v _ (Ha.out.up K8.out) han).mono ?_
  rintro e w9 ⟨uy, rfl, ho, hk⟩
  have PW := Lib.hid (OW.out.kept hk (.inl (Nat.le_refl _)))
  have Px := Lib.hid (Ox.out.kept hk (.inl (Nat.le_refl _)))
  have PG := Lib.hid (OG.out.kept hk (.inl (Nat.le_refl _)))
  have Ra := Lib.hid (Ba.out.kept hk (.inl (Nat.le_refl _)))
  clear OW
  have OW := PW
  clear PW
  clear Ox
  have Ox := Px
  clear Px
  clear OG
  have OG := PG
  clear PG
  clear Ba
  have Ba := Ra
  clear Ra
  have Oy := Lib.hid ho
  have K9 := Lib.hid (K8.out.trans hk)
  have z9 := hk.size
  clear hk ho K8
  go_wp2_with fail
  with_reducible refine (eqNd (t) _ _ _ (Ox.out.rdW (by omega)) (Oy.out.rdW (by omega))).mono ?_
  rintro e w10 ⟨rfl, hk⟩
  have PW := Lib.hid (OW.out.kept hk (.inl (Nat.le_refl _)))
  have Px := Lib.hid (Ox.out.kept hk (.inl (Nat.le_refl _)))
  have PG := Lib.hid (OG.out.kept hk (.inl (Nat.le_refl _)))
  have Py := Lib.hid (Oy.out.kept hk (.inl (Nat.le_refl _)))
  have Ra := Lib.hid (Ba.out.kept hk (.inl (Nat.le_refl _)))
  clear OW
  have OW := PW
  clear PW
  clear Ox
  have Ox := Px
  clear Px
  clear OG
  have OG := PG
  clear PG
  clear Oy
  have Oy := Py
  clear Py
  clear Ba
  have Ba := Ra
  clear Ra
  have K10 := Lib.hid (K9.out.trans hk)
  have z10 := hk.size
  clear hk K9
  clear Oy
  go_wp2_with fail
  with_reducible refine (markNd (1) (t) _ w4.heap.size w5.heap.size _ Ox.out (by omega) (by omega) (by omega)).mono ?_
  rintro e w11 ⟨rfl, ho, hk⟩
  have PW := Lib.hid (OW.out.kept hk (by omega))
  have PG := Lib.hid (OG.out.kept hk (by omega))
  have Ra := Lib.hid (Ba.out.kept hk (by omega))
  clear OW
  have OW := PW
  clear PW
  clear OG
  have OG := PG
  clear PG
  clear Ba
  have Ba := Ra
  clear Ra
  clear Ox
  have Ox := Lib.hid ho
  have K11 := Lib.hid (K10.out.trans2 hk (.inr (by omega)))
  have z11 := hk.size
  clear hk ho K10
  have kp : 0 ≤ 1 + 5 * (t.length : Int) := by omega
  go_wp2_with fail
  with_reducible refine (eqNd (zs) _ _ _ (OG.out.rdW (by omega)) (OW.out.rdW (by omega))).mono ?_
  rintro e w12 ⟨rfl, hk⟩
  have PW := Lib.hid (OW.out.kept hk (.inl (Nat.le_refl _)))
  have Px := Lib.hid (Ox.out.kept hk (.inl (Nat.le_refl _)))
  have PG := Lib.hid (OG.out.kept hk (.inl (Nat.le_refl _)))
  have Ra := Lib.hid (Ba.out.kept hk (.inl (Nat.le_refl _)))
  clear OW
  have OW := PW
  clear PW
  clear Ox
  have Ox := Px
  clear Px
  clear OG
  have OG := PG
  clear PG
  clear Ba
  have Ba := Ra
  clear Ra
  have K12 := Lib.hid (K11.out.trans hk)
  have z12 := hk.size
  clear hk K11
  go_wp2_with fail
  with_reducible refine (markNd (1) (zs) _ w6.heap.size w7.heap.size _ OG.out (by omega) (by omega) (by omega)).mono ?_
  rintro e w13 ⟨rfl, ho, hk⟩
  have PW := Lib.hid (OW.out.kept hk (by omega))
  have Px := Lib.hid (Ox.out.kept hk (by omega))
  have Ra := Lib.hid (Ba.out.kept hk (by omega))
  clear OW
  have OW := PW
  clear PW
  clear Ox
  have Ox := Px
  clear Px
  clear Ba
  have Ba := Ra
  clear Ra
  clear OG
  have OG := Lib.hid ho
  have K13 := Lib.hid (K12.out.trans2 hk (.inr (by omega)))
  have z13 := hk.size
  clear hk ho K12
  have kq : 0 ≤ 1 + 5 * (zs.length : Int) := by omega
  go_wp2_with fail
  with_reducible refine (heldNd (1) (zs.length) _ _ _ (OG.out.rdW (by omega)) (by omega) (by omega) (by omega)).mono ?_
  rintro e w' ⟨rfl, rfl⟩
  clear Ox
  go_upto_region 24 with fail
  go_region_held3 (fun w' => w'.cell? ⟨w.heap.size, 0, none⟩ = some (.int .i64 x.kind) ∧ w'.cell? ⟨w.heap.size, 1, none⟩ = some (.int .i64 x.up) ∧ w'.cell? ⟨w.heap.size, 2, none⟩ = some (.int .i64 x.due) ∧ w'.cell? ⟨w.heap.size, 3, none⟩ = some (.int .i64 x.key) ∧ w'.cell? ⟨w.heap.size, 4, none⟩ = some (.int .i64 x.value))
    (first | with_reducible exact ⟨by0 Ba.out.drew, by1 Ba.out.drew, by2 Ba.out.drew, by3 Ba.out.drew, by4 Ba.out.drew⟩ | with_reducible exact ⟨by0 X1, by1 X1, by2 X1, by3 X1, by4 X1⟩ | with_reducible exact ⟨by0 X2, by1 X2, by2 X2, by3 X2, by4 X2⟩ | with_reducible exact ⟨by0 X3, by1 X3, by2 X3, by3 X3, by4 X3⟩)
    (first | (go_at_call 24; (with_reducible refine (toNd t v w13.drew (Ha.out.up K13.out.drew) han).mono ?_); rintro e w14 ⟨u1, rfl, o1, hk⟩; have k1 : Kept 0 0 w13 w14 := (Kept.refl 0 0 w13).drew.trans hk; have X1 := Ba.out.kept k1 (.inl (Nat.le_refl _)); clear hk) | (go_at_call 27; (with_reducible refine (toNd1_any x w14).mono ?_); rintro e w15 ⟨rfl, hk⟩; have o2 := o1.kept hk (.inl (Nat.le_refl _)); have k2 : Kept 0 0 w13 w15 := k1.trans hk; have z2 := hk.size; have X2 := Ba.out.kept k2 (.inl (Nat.le_refl _)); clear hk) | (go_at_call 21; (with_reducible refine (implGrown t x u1 w15 (o2.rdW z2)).mono ?_); rintro e w16 ⟨uQ, rfl, ho, hk⟩; have k3 : Kept 0 0 w13 w16 := k2.trans hk; have X3 := Ba.out.kept k3 (.inl (Nat.le_refl _)); have ks := Lib.hid k3; have zz := hk.size; have z3 := k2.size; have OO := Lib.hid ho; clear hk))
  clear X1 X2 X3 k1 k2 k3 o1 o2 z2 ho
  have PW := Lib.hid (OW.out.kept ks.out (.inl (Nat.le_refl _)))
  have PG := Lib.hid (OG.out.kept ks.out (.inl (Nat.le_refl _)))
  have Ra := Lib.hid (Ba.out.kept ks.out (.inl (Nat.le_refl _)))
  clear OW
  have OW := PW
  clear PW
  clear OG
  have OG := PG
  clear PG
  clear Ba
  have Ba := Ra
  clear Ra
  have OQ := OO
  clear OO
  have K16 := Lib.hid (K13.out.trans ks.out)
  have z16 := ks.out.size
  clear ks K13
  rw [← HZ.out] at OQ
  rw [← HB.out]
  go_wp2_with fail
  with_reducible refine (eqNd (zs) _ _ _ (OQ.out.rdW (by omega)) (OW.out.rdW (by omega))).mono ?_
  rintro e w17 ⟨rfl, hk⟩
  have PW := Lib.hid (OW.out.kept hk (.inl (Nat.le_refl _)))
  have PG := Lib.hid (OG.out.kept hk (.inl (Nat.le_refl _)))
  have PQ := Lib.hid (OQ.out.kept hk (.inl (Nat.le_refl _)))
  have Ra := Lib.hid (Ba.out.kept hk (.inl (Nat.le_refl _)))
  clear OW
  have OW := PW
  clear PW
  clear OG
  have OG := PG
  clear PG
  clear OQ
  have OQ := PQ
  clear PQ
  clear Ba
  have Ba := Ra
  clear Ra
  have K17 := Lib.hid (K16.out.trans hk)
  have z17 := hk.size
  clear hk K16
  go_wp2_with fail
  with_reducible refine (heldNd (1) (zs.length) _ _ _ (OG.out.rdW (by omega)) (by omega) (by omega) (by omega)).mono ?_
  rintro e w' ⟨rfl, rfl⟩
  go_wp2
  go_ret
  exact ⟨rfl, K17.out⟩

set_option maxHeartbeats 400000 in
theorem lawGrown (t : List Nd) (x : Nd) (v : Value) (w : World) (ha : RdNd w w.heap.size v t) :
    Calls Try.prog 6 #[v, .agg #[.int .i64 x.kind, .int .i64 x.up, .int .i64 x.due, .int .i64 x.key, .int .i64 x.value]] w fun e w' => e = .returned (.bool true) ∧ Kept 0 0 w w' := by
  rcases Nat.lt_or_ge 1048576 t.length with hl | hl
  · have Ha := Lib.hid (ha.up (Kept.alloc0 w (.cells #[.int .i64 x.kind, .int .i64 x.up, .int .i64 x.due, .int .i64 x.key, .int .i64 x.value] 44)))
    clear ha
    have Ea : Hid (szF 1048576 t.length = -1) := szF_neg (by omega)
    go_enter Try.func6, Try.ntmps6
    go_wp2_with fail
    with_reducible refine (szNd t _ _ _ _ Ha.out (by omega) (by omega)).mono ?_
    rintro e w' ⟨rfl, rfl⟩
    rw [Ea.out]
    go_wp2
    go_ret
    exact ⟨rfl, Kept.alloc0 _ _⟩
  · exact lawGrown_small t x v w ha hl
end Go.Proofs.Ytakhegamlammcaa
