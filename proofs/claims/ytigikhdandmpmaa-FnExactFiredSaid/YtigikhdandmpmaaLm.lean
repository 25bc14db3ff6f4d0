/- The exact laws of TimersOk, NextDue, Armed, Stopped, Reset and Forgotten: each returns true and keeps old memory. No condition beyond that the timers can be read. -/
import Derived.Test.YtigikhdandmpmaaQm
namespace Go.Proofs.Ytigikhdandmpmaa
open Go.RowKit Go.Sort

theorem OwnM.rd {w : World} {lo hi : Nat} {v : Value} {t : Tms} (h : OwnM w lo hi v t) : RdM w hi v t := by
  obtain ⟨p1, p2, p3, p4, p5⟩ := h; exact ⟨p1, p2, p3, p4.rd, p5.rd⟩
theorem ok_len {T : Tms} (h : timersOkB T = true) : T.heap.length ≤ 64 ∧ T.list.length ≤ 64 := ⟨(heapOk_iff.1 (timersOk_iff.1 h).heap).1, (timersOk_iff.1 h).len⟩
theorem stopL_len (T : Tms) (q : Int) : (stopL T q).heap.length ≤ 1048576 ∧ (stopL T q).list.length ≤ 1048576 := by
  unfold stopL
  split
  · rename_i h
    have := ok_len h
    have := withoutL_len T.heap q
    unfold stoppedT
    split
    · omega
    · simp only [List.length_modify]; omega
  · simp [zeroT]
theorem forgetL_len (T : Tms) (q : Int) : (forgetL T q).heap.length ≤ 1048576 ∧ (forgetL T q).list.length ≤ 1048576 := by
  unfold forgetL
  split
  · rename_i h
    have := ok_len h
    have := withoutL_len T.heap q
    unfold forgetT
    split
    · omega
    · simp only [List.length_append, List.length_take, List.length_drop]; omega
  · simp [zeroT]
theorem resetL_len (T : Tms) (q d : Int) : (resetL T q d).heap.length ≤ 1048576 ∧ (resetL T q d).list.length ≤ 1048576 := by
  unfold resetL
  split
  · rename_i h
    have := ok_len h
    have := mergedL_len (withoutL T.heap q) [⟨d, q, 0⟩]
    unfold resetT
    split
    · omega
    · simp only [putL, List.length_modify]; omega
  · simp [zeroT]
theorem armL_len (T : Tms) (p q r : Int) : (armL T p q r).heap.length ≤ 1048576 ∧ (armL T p q r).list.length ≤ 1048576 := by
  unfold armL
  split
  · rename_i h
    have := ok_len h
    have := mergedL_len T.heap [⟨p, T.next, 0⟩]
    split
    · simp only [putL, List.length_append, List.length_cons, List.length_nil]; omega
    · omega
  · simp [zeroT]

set_option maxHeartbeats 6400000 in
theorem lawOk_small (T : Tms) (v : Value) (w : World) (h : RdM w w.heap.size v T) (hn : T.heap.length + T.list.length ≤ 1048576) :
    Calls Try.prog 5 #[v] w fun e w' => e = .returned (.bool true) ∧ Kept 0 0 w w' := by
  obtain ⟨hv, lv, rfl, ⟨A1, q1, rfl, s2⟩, ⟨A2, q2, rfl, s3⟩⟩ := h
  have HA : Hid (RdM w w.heap.size (.agg #[.slice A1 T.heap.length q1, .slice A2 T.list.length q2, .int .i64 T.next]) T) := ⟨_, _, rfl, ⟨A1, q1, rfl, s2⟩, ⟨A2, q2, rfl, s3⟩⟩
  clear s2 s3
  have Th : T.heap.length ≤ 1048576 := by omega
  have Tl : T.list.length ≤ 1048576 := by omega
  go_enter Try.func5, Try.ntmps5
  go_wp2_with fail
  obtain ⟨w1, hw⟩ : ∃ w1, w1 = w.alloc (.cells #[.slice A1 T.heap.length q1, .slice A2 T.list.length q2, .int .i64 T.next] 50) := ⟨_, rfl⟩
  have hk : Kept 0 0 w w1 := by rw [hw]; exact Kept.alloc0 _ _
  have Na : Hid (Blk w1 w.heap.size 50 #[.slice A1 T.heap.length q1, .slice A2 T.list.length q2, .int .i64 T.next]) := by show Blk _ _ _ _; rw [hw]; exact Blk.new _ _ _
  rw [← hw]
  have Ba := Na
  clear Na
  have y1 := Ba.out.lt
  have K1 := Lib.hid ((Kept.refl 0 0 w).trans hk)
  have z1 := hk.size
  clear hk hw
  have SZ : Hid ((0 : Int) ≤ 1048576 - T.heap.length - T.list.length) := by show _ ≤ _; omega
  have sz := SZ.out
  go_wp2_with fail
  with_reducible refine (szM_pos T _ _ _ _ (HA.out.up K1.out) (by omega) (by omega)).mono ?_
  rintro e w2 ⟨rfl, hk⟩
  have Ra := Lib.hid (Ba.out.kept hk (.inl (Nat.le_refl _)))
  clear Ba
  have Ba := Ra
  clear Ra
  have K2 := Lib.hid (K1.out.trans hk)
  have z2 := hk.size
  clear hk K1
  have ca0 := bx0 Ba.out
  have ca1 := bx1 Ba.out
  have ca2 := bx2 Ba.out
  go_wp2_with fail
  clear ca0 ca1 ca2
  with_reducible refine (toM T _ _ (HA.out.up K2.out) Th Tl).mono ?_
  rintro e w3 ⟨_, rfl, ⟨_, _, rfl, ⟨DAs, dAs, rfl, oa⟩, ⟨DBs, dBs, rfl, ob⟩⟩, hk⟩
  have Ra := Lib.hid (Ba.out.kept hk (.inl (Nat.le_refl _)))
  clear Ba
  have Ba := Ra
  clear Ra
  have Os : Hid (OwnM w3 w2.heap.size w3.heap.size (.agg #[.slice DAs T.heap.length dAs, .slice DBs T.list.length dBs, .int .i64 T.next]) T) := ⟨_, _, rfl, ⟨DAs, dAs, rfl, oa⟩, ⟨DBs, dBs, rfl, ob⟩⟩
  have K3 := Lib.hid (K2.out.trans hk)
  have z3 := hk.size
  clear hk oa ob K2
  go_wp2_with fail
  with_reducible refine (ok4_any T _ _ (Os.out.rdW (by omega))).mono ?_
  rintro e w4 ⟨rfl, hk⟩
  have Ps := Lib.hid (Os.out.kept hk (.inl (Nat.le_refl _)))
  have Ra := Lib.hid (Ba.out.kept hk (.inl (Nat.le_refl _)))
  clear Os
  have Os := Ps
  clear Ps
  clear Ba
  have Ba := Ra
  clear Ra
  have K4 := Lib.hid (K3.out.trans hk)
  have z4 := hk.size
  clear hk K3
  clear Os
  have ca0 := bx0 Ba.out
  have ca1 := bx1 Ba.out
  have ca2 := bx2 Ba.out
  go_wp2_with fail
  clear ca0 ca1 ca2
  with_reducible refine (toM T _ _ (HA.out.up K4.out) Th Tl).mono ?_
  rintro e w5 ⟨_, rfl, ⟨_, _, rfl, ⟨DAx, dAx, rfl, oa⟩, ⟨DBx, dBx, rfl, ob⟩⟩, hk⟩
  have Ra := Lib.hid (Ba.out.kept hk (.inl (Nat.le_refl _)))
  clear Ba
  have Ba := Ra
  clear Ra
  have Ox : Hid (OwnM w5 w4.heap.size w5.heap.size (.agg #[.slice DAx T.heap.length dAx, .slice DBx T.list.length dBx, .int .i64 T.next]) T) := ⟨_, _, rfl, ⟨DAx, dAx, rfl, oa⟩, ⟨DBx, dBx, rfl, ob⟩⟩
  have K5 := Lib.hid (K4.out.trans hk)
  have z5 := hk.size
  clear hk oa ob K4
  go_wp2_with fail
  obtain ⟨w6, hw⟩ : ∃ w6, w6 = w5.alloc (.cells #[.slice DAx T.heap.length dAx, .slice DBx T.list.length dBx, .int .i64 T.next] 30) := ⟨_, rfl⟩
  have hk : Kept 0 0 w5 w6 := by rw [hw]; exact Kept.alloc0 _ _
  have Nx : Hid (Blk w6 w5.heap.size 30 #[.slice DAx T.heap.length dAx, .slice DBx T.list.length dBx, .int .i64 T.next]) := by show Blk _ _ _ _; rw [hw]; exact Blk.new _ _ _
  rw [← hw]
  have Px := Lib.hid (Ox.out.kept hk (.inl (Nat.le_refl _)))
  have Ra := Lib.hid (Ba.out.kept hk (.inl (Nat.le_refl _)))
  clear Ox
  have Ox := Px
  clear Px
  clear Ba
  have Ba := Ra
  clear Ra
  have Bx := Nx
  clear Nx
  have y6 := Bx.out.lt
  have K6 := Lib.hid (K5.out.trans hk)
  have z6 := hk.size
  clear hk hw K5
  go_wp2_with fail
  with_reducible refine (implTimersOk T _ _ (Ox.out.rdW (by omega))).mono ?_
  rintro e w7 ⟨rfl, hk⟩
  have Px := Lib.hid (Ox.out.kept hk (.inl (Nat.le_refl _)))
  have Ra := Lib.hid (Ba.out.kept hk (.inl (Nat.le_refl _)))
  have Rx := Lib.hid (Bx.out.kept hk (.inl (Nat.le_refl _)))
  clear Ox
  have Ox := Px
  clear Px
  clear Ba
  have Ba := Ra
  clear Ra
  clear Bx
  have Bx := Rx
  clear Rx
  have K7 := Lib.hid (K6.out.trans hk)
  have z7 := hk.size
  clear hk K6
  obtain ⟨bb, hbb⟩ : ∃ bb, bb = timersOkB T := ⟨_, rfl⟩
  rw [← hbb]
  clear hbb
  have qq : (bb != bb) = false := by simp
  have qe : (bb == bb) = true := by simp
  go_upto_region 10 with fail
  go_region_held3 (fun w' => w'.cell? ⟨w5.heap.size, 0, none⟩ = some (.slice DAx T.heap.length dAx) ∧ w'.cell? ⟨w5.heap.size, 1, none⟩ = some (.slice DBx T.list.length dBx) ∧ w'.cell? ⟨w5.heap.size, 2, none⟩ = some (.int .i64 T.next) ∧ w'.cell? ⟨w.heap.size, 0, none⟩ = some (.slice A1 T.heap.length q1) ∧ w'.cell? ⟨w.heap.size, 1, none⟩ = some (.slice A2 T.list.length q2) ∧ w'.cell? ⟨w.heap.size, 2, none⟩ = some (.int .i64 T.next))
    (first | with_reducible exact ⟨bx0 Bx.out.drew, bx1 Bx.out.drew, bx2 Bx.out.drew, bx0 Ba.out.drew, bx1 Ba.out.drew, bx2 Ba.out.drew⟩ | with_reducible exact ⟨bx0 Xx, bx1 Xx, bx2 Xx, bx0 Xa, bx1 Xa, bx2 Xa⟩ | with_reducible exact ⟨bx0 Yx, bx1 Yx, bx2 Yx, bx0 Ya, bx1 Ya, bx2 Ya⟩)
    (first | (go_at_call 27; (with_reducible refine (toM T _ w7.drew (HA.out.up (K7.out).drew) Th Tl).mono ?_); rintro e w8 ⟨_, rfl, ⟨_, _, rfl, ⟨DAy, dAy, rfl, oa⟩, ⟨DBy, dBy, rfl, ob⟩⟩, hk⟩; have k1 : Kept 0 0 w7 w8 := (Kept.refl 0 0 w7).drew.trans hk; have Oy : OwnM w8 w7.drew.heap.size w8.heap.size (.agg #[.slice DAy T.heap.length dAy, .slice DBy T.list.length dBy, .int .i64 T.next]) T := ⟨_, _, rfl, ⟨DAy, dAy, rfl, oa⟩, ⟨DBy, dBy, rfl, ob⟩⟩; have Xx := Bx.out.kept k1 (.inl (Nat.le_refl _)); have Xa := Ba.out.kept k1 (.inl (Nat.le_refl _)); have zz := k1.size; clear hk oa ob) | (go_at_call 28; (with_reducible refine (eqM T _ _ w8 ((Ox.out.kept k1 (.inl (Nat.le_refl _))).rdW (by omega)) (Oy.rdW (Nat.le_refl _))).mono ?_); rintro e w9 ⟨rfl, hk⟩; have k2 : Kept 0 0 w7 w9 := k1.trans hk; have Yx := Bx.out.kept k2 (.inl (Nat.le_refl _)); have Ya := Ba.out.kept k2 (.inl (Nat.le_refl _)); have ks := Lib.hid k2; clear hk))
  clear Xx Xa Yx Ya k1 k2 Oy zz
  have Px := Lib.hid (Ox.out.kept ks.out (.inl (Nat.le_refl _)))
  have Ra := Lib.hid (Ba.out.kept ks.out (.inl (Nat.le_refl _)))
  have Rx := Lib.hid (Bx.out.kept ks.out (.inl (Nat.le_refl _)))
  clear Ox
  have Ox := Px
  clear Px
  clear Ba
  have Ba := Ra
  clear Ra
  clear Bx
  have Bx := Rx
  clear Rx
  have K9 := Lib.hid ((K7.out).trans ks.out)
  have z9 := ks.out.size
  clear ks K7
  go_wp2_with fail
  go_ret
  exact ⟨rfl, K9.out⟩
set_option maxHeartbeats 400000 in
theorem lawOk (T : Tms) (v : Value) (w : World) (h : RdM w w.heap.size v T) :
    Calls Try.prog 5 #[v] w fun e w' => e = .returned (.bool true) ∧ Kept 0 0 w w' := by
  rcases Nat.lt_or_ge 1048576 (T.heap.length + T.list.length) with hl | hl
  · obtain ⟨hv, lv, rfl, ⟨A1, q1, rfl, s2⟩, ⟨A2, q2, rfl, s3⟩⟩ := h
    have HA : Hid (RdM w w.heap.size (.agg #[.slice A1 T.heap.length q1, .slice A2 T.list.length q2, .int .i64 T.next]) T) := ⟨_, _, rfl, ⟨A1, q1, rfl, s2⟩, ⟨A2, q2, rfl, s3⟩⟩
    obtain ⟨W, hW⟩ : ∃ W, W = w.alloc (.cells #[.slice A1 T.heap.length q1, .slice A2 T.list.length q2, .int .i64 T.next] 50) := ⟨_, rfl⟩
    have KW : Hid (Kept 0 0 w W) := by show Kept _ _ _ _; rw [hW]; exact Kept.alloc0 _ _
    have CS := Lib.hid (szM_neg T _ 1048576 W _ (HA.out.up KW.out) (by omega) (by omega) (by omega))
    have HW := Lib.hid hW
    clear s2 s3 hW
    go_enter Try.func5, Try.ntmps5
    go_wp2_with fail
    rw [← HW.out]
    with_reducible refine CS.out.mono ?_
    rintro e w1 ⟨rfl, hk⟩
    have K1 := Lib.hid (KW.out.trans hk)
    clear hk CS
    go_wp2
    go_ret
    exact ⟨rfl, K1.out⟩
  · exact lawOk_small T v w h hl

set_option maxHeartbeats 6400000 in
theorem lawNext_small (T : Tms) (v : Value) (w : World) (h : RdM w w.heap.size v T) (hn : T.heap.length + T.list.length ≤ 1048576) :
    Calls Try.prog 11 #[v] w fun e w' => e = .returned (.bool true) ∧ Kept 0 0 w w' := by
  obtain ⟨hv, lv, rfl, ⟨A1, q1, rfl, s2⟩, ⟨A2, q2, rfl, s3⟩⟩ := h
  have HA : Hid (RdM w w.heap.size (.agg #[.slice A1 T.heap.length q1, .slice A2 T.list.length q2, .int .i64 T.next]) T) := ⟨_, _, rfl, ⟨A1, q1, rfl, s2⟩, ⟨A2, q2, rfl, s3⟩⟩
  clear s2 s3
  have Th : T.heap.length ≤ 1048576 := by omega
  have Tl : T.list.length ≤ 1048576 := by omega
  go_enter Try.func11, Try.ntmps11
  go_wp2_with fail
  obtain ⟨w1, hw⟩ : ∃ w1, w1 = w.alloc (.cells #[.slice A1 T.heap.length q1, .slice A2 T.list.length q2, .int .i64 T.next] 50) := ⟨_, rfl⟩
  have hk : Kept 0 0 w w1 := by rw [hw]; exact Kept.alloc0 _ _
  have Na : Hid (Blk w1 w.heap.size 50 #[.slice A1 T.heap.length q1, .slice A2 T.list.length q2, .int .i64 T.next]) := by show Blk _ _ _ _; rw [hw]; exact Blk.new _ _ _
  rw [← hw]
  have Ba := Na
  clear Na
  have y1 := Ba.out.lt
  have K1 := Lib.hid ((Kept.refl 0 0 w).trans hk)
  have z1 := hk.size
  clear hk hw
  have SZ : Hid ((0 : Int) ≤ 1048576 - T.heap.length - T.list.length) := by show _ ≤ _; omega
  have sz := SZ.out
  go_wp2_with fail
  with_reducible refine (szM_pos T _ _ _ _ (HA.out.up K1.out) (by omega) (by omega)).mono ?_
  rintro e w2 ⟨rfl, hk⟩
  have Ra := Lib.hid (Ba.out.kept hk (.inl (Nat.le_refl _)))
  clear Ba
  have Ba := Ra
  clear Ra
  have K2 := Lib.hid (K1.out.trans hk)
  have z2 := hk.size
  clear hk K1
  have ca0 := bx0 Ba.out
  have ca1 := bx1 Ba.out
  have ca2 := bx2 Ba.out
  go_wp2_with fail
  clear ca0 ca1 ca2
  with_reducible refine (toM T _ _ (HA.out.up K2.out) Th Tl).mono ?_
  rintro e w3 ⟨_, rfl, ⟨_, _, rfl, ⟨DAs, dAs, rfl, oa⟩, ⟨DBs, dBs, rfl, ob⟩⟩, hk⟩
  have Ra := Lib.hid (Ba.out.kept hk (.inl (Nat.le_refl _)))
  clear Ba
  have Ba := Ra
  clear Ra
  have Os : Hid (OwnM w3 w2.heap.size w3.heap.size (.agg #[.slice DAs T.heap.length dAs, .slice DBs T.list.length dBs, .int .i64 T.next]) T) := ⟨_, _, rfl, ⟨DAs, dAs, rfl, oa⟩, ⟨DBs, dBs, rfl, ob⟩⟩
  have K3 := Lib.hid (K2.out.trans hk)
  have z3 := hk.size
  clear hk oa ob K2
  go_wp2_with fail
  with_reducible refine (next4_any T _ _ (Os.out.rdW (by omega))).mono ?_
  rintro e w4 ⟨rfl, hk⟩
  have Ps := Lib.hid (Os.out.kept hk (.inl (Nat.le_refl _)))
  have Ra := Lib.hid (Ba.out.kept hk (.inl (Nat.le_refl _)))
  clear Os
  have Os := Ps
  clear Ps
  clear Ba
  have Ba := Ra
  clear Ra
  have K4 := Lib.hid (K3.out.trans hk)
  have z4 := hk.size
  clear hk K3
  clear Os
  have ca0 := bx0 Ba.out
  have ca1 := bx1 Ba.out
  have ca2 := bx2 Ba.out
  go_wp2_with fail
  clear ca0 ca1 ca2
  with_reducible refine (toM T _ _ (HA.out.up K4.out) Th Tl).mono ?_
  rintro e w5 ⟨_, rfl, ⟨_, _, rfl, ⟨DAx, dAx, rfl, oa⟩, ⟨DBx, dBx, rfl, ob⟩⟩, hk⟩
  have Ra := Lib.hid (Ba.out.kept hk (.inl (Nat.le_refl _)))
  clear Ba
  have Ba := Ra
  clear Ra
  have Ox : Hid (OwnM w5 w4.heap.size w5.heap.size (.agg #[.slice DAx T.heap.length dAx, .slice DBx T.list.length dBx, .int .i64 T.next]) T) := ⟨_, _, rfl, ⟨DAx, dAx, rfl, oa⟩, ⟨DBx, dBx, rfl, ob⟩⟩
  have K5 := Lib.hid (K4.out.trans hk)
  have z5 := hk.size
  clear hk oa ob K4
  go_wp2_with fail
  obtain ⟨w6, hw⟩ : ∃ w6, w6 = w5.alloc (.cells #[.slice DAx T.heap.length dAx, .slice DBx T.list.length dBx, .int .i64 T.next] 30) := ⟨_, rfl⟩
  have hk : Kept 0 0 w5 w6 := by rw [hw]; exact Kept.alloc0 _ _
  have Nx : Hid (Blk w6 w5.heap.size 30 #[.slice DAx T.heap.length dAx, .slice DBx T.list.length dBx, .int .i64 T.next]) := by show Blk _ _ _ _; rw [hw]; exact Blk.new _ _ _
  rw [← hw]
  have Px := Lib.hid (Ox.out.kept hk (.inl (Nat.le_refl _)))
  have Ra := Lib.hid (Ba.out.kept hk (.inl (Nat.le_refl _)))
  clear Ox
  have Ox := Px
  clear Px
  clear Ba
  have Ba := Ra
  clear Ra
  have Bx := Nx
  clear Nx
  have y6 := Bx.out.lt
  have K6 := Lib.hid (K5.out.trans hk)
  have z6 := hk.size
  clear hk hw K5
  go_wp2_with fail
  with_reducible refine (implNextDue T _ _ (Ox.out.rdW (by omega))).mono ?_
  rintro e w7 ⟨rfl, hk⟩
  have Px := Lib.hid (Ox.out.kept hk (.inl (Nat.le_refl _)))
  have Ra := Lib.hid (Ba.out.kept hk (.inl (Nat.le_refl _)))
  have Rx := Lib.hid (Bx.out.kept hk (.inl (Nat.le_refl _)))
  clear Ox
  have Ox := Px
  clear Px
  clear Ba
  have Ba := Ra
  clear Ra
  clear Bx
  have Bx := Rx
  clear Rx
  have K7 := Lib.hid (K6.out.trans hk)
  have z7 := hk.size
  clear hk K6
  obtain ⟨bb, hbb⟩ : ∃ bb, bb = nextDueI T := ⟨_, rfl⟩
  rw [← hbb]
  clear hbb
  have qq : (bb != bb) = false := by simp
  have qe : (bb == bb) = true := by simp
  go_upto_region 10 with fail
  go_region_held3 (fun w' => w'.cell? ⟨w5.heap.size, 0, none⟩ = some (.slice DAx T.heap.length dAx) ∧ w'.cell? ⟨w5.heap.size, 1, none⟩ = some (.slice DBx T.list.length dBx) ∧ w'.cell? ⟨w5.heap.size, 2, none⟩ = some (.int .i64 T.next) ∧ w'.cell? ⟨w.heap.size, 0, none⟩ = some (.slice A1 T.heap.length q1) ∧ w'.cell? ⟨w.heap.size, 1, none⟩ = some (.slice A2 T.list.length q2) ∧ w'.cell? ⟨w.heap.size, 2, none⟩ = some (.int .i64 T.next))
    (first | with_reducible exact ⟨bx0 Bx.out.drew, bx1 Bx.out.drew, bx2 Bx.out.drew, bx0 Ba.out.drew, bx1 Ba.out.drew, bx2 Ba.out.drew⟩ | with_reducible exact ⟨bx0 Xx, bx1 Xx, bx2 Xx, bx0 Xa, bx1 Xa, bx2 Xa⟩ | with_reducible exact ⟨bx0 Yx, bx1 Yx, bx2 Yx, bx0 Ya, bx1 Ya, bx2 Ya⟩)
    (first | (go_at_call 27; (with_reducible refine (toM T _ w7.drew (HA.out.up (K7.out).drew) Th Tl).mono ?_); rintro e w8 ⟨_, rfl, ⟨_, _, rfl, ⟨DAy, dAy, rfl, oa⟩, ⟨DBy, dBy, rfl, ob⟩⟩, hk⟩; have k1 : Kept 0 0 w7 w8 := (Kept.refl 0 0 w7).drew.trans hk; have Oy : OwnM w8 w7.drew.heap.size w8.heap.size (.agg #[.slice DAy T.heap.length dAy, .slice DBy T.list.length dBy, .int .i64 T.next]) T := ⟨_, _, rfl, ⟨DAy, dAy, rfl, oa⟩, ⟨DBy, dBy, rfl, ob⟩⟩; have Xx := Bx.out.kept k1 (.inl (Nat.le_refl _)); have Xa := Ba.out.kept k1 (.inl (Nat.le_refl _)); have zz := k1.size; clear hk oa ob) | (go_at_call 28; (with_reducible refine (eqM T _ _ w8 ((Ox.out.kept k1 (.inl (Nat.le_refl _))).rdW (by omega)) (Oy.rdW (Nat.le_refl _))).mono ?_); rintro e w9 ⟨rfl, hk⟩; have k2 : Kept 0 0 w7 w9 := k1.trans hk; have Yx := Bx.out.kept k2 (.inl (Nat.le_refl _)); have Ya := Ba.out.kept k2 (.inl (Nat.le_refl _)); have ks := Lib.hid k2; clear hk))
  clear Xx Xa Yx Ya k1 k2 Oy zz
  have Px := Lib.hid (Ox.out.kept ks.out (.inl (Nat.le_refl _)))
  have Ra := Lib.hid (Ba.out.kept ks.out (.inl (Nat.le_refl _)))
  have Rx := Lib.hid (Bx.out.kept ks.out (.inl (Nat.le_refl _)))
  clear Ox
  have Ox := Px
  clear Px
  clear Ba
  have Ba := Ra
  clear Ra
  clear Bx
  have Bx := Rx
  clear Rx
  have K9 := Lib.hid ((K7.out).trans ks.out)
  have z9 := ks.out.size
  clear ks K7
  go_wp2_with fail
  go_ret
  exact ⟨rfl, K9.out⟩
set_option maxHeartbeats 400000 in
theorem lawNext (T : Tms) (v : Value) (w : World) (h : RdM w w.heap.size v T) :
    Calls Try.prog 11 #[v] w fun e w' => e = .returned (.bool true) ∧ Kept 0 0 w w' := by
  rcases Nat.lt_or_ge 1048576 (T.heap.length + T.list.length) with hl | hl
  · obtain ⟨hv, lv, rfl, ⟨A1, q1, rfl, s2⟩, ⟨A2, q2, rfl, s3⟩⟩ := h
    have HA : Hid (RdM w w.heap.size (.agg #[.slice A1 T.heap.length q1, .slice A2 T.list.length q2, .int .i64 T.next]) T) := ⟨_, _, rfl, ⟨A1, q1, rfl, s2⟩, ⟨A2, q2, rfl, s3⟩⟩
    obtain ⟨W, hW⟩ : ∃ W, W = w.alloc (.cells #[.slice A1 T.heap.length q1, .slice A2 T.list.length q2, .int .i64 T.next] 50) := ⟨_, rfl⟩
    have KW : Hid (Kept 0 0 w W) := by show Kept _ _ _ _; rw [hW]; exact Kept.alloc0 _ _
    have CS := Lib.hid (szM_neg T _ 1048576 W _ (HA.out.up KW.out) (by omega) (by omega) (by omega))
    have HW := Lib.hid hW
    clear s2 s3 hW
    go_enter Try.func11, Try.ntmps11
    go_wp2_with fail
    rw [← HW.out]
    with_reducible refine CS.out.mono ?_
    rintro e w1 ⟨rfl, hk⟩
    have K1 := Lib.hid (KW.out.trans hk)
    clear hk CS
    go_wp2
    go_ret
    exact ⟨rfl, K1.out⟩
  · exact lawNext_small T v w h hl

set_option maxHeartbeats 6400000 in
theorem lawStopped_small (T : Tms) (q : Int) (v : Value) (w : World) (h : RdM w w.heap.size v T) (hn : T.heap.length + T.list.length ≤ 1048576) :
    Calls Try.prog 7 #[v, .int .i64 q] w fun e w' => e = .returned (.bool true) ∧ Kept 0 0 w w' := by
  obtain ⟨hv, lv, rfl, ⟨A1, q1, rfl, s2⟩, ⟨A2, q2, rfl, s3⟩⟩ := h
  have HA : Hid (RdM w w.heap.size (.agg #[.slice A1 T.heap.length q1, .slice A2 T.list.length q2, .int .i64 T.next]) T) := ⟨_, _, rfl, ⟨A1, q1, rfl, s2⟩, ⟨A2, q2, rfl, s3⟩⟩
  clear s2 s3
  have Th : T.heap.length ≤ 1048576 := by omega
  have Tl : T.list.length ≤ 1048576 := by omega
  go_enter Try.func7, Try.ntmps7
  go_wp2_with fail
  obtain ⟨w1, hw⟩ : ∃ w1, w1 = w.alloc (.cells #[.slice A1 T.heap.length q1, .slice A2 T.list.length q2, .int .i64 T.next] 50) := ⟨_, rfl⟩
  have hk : Kept 0 0 w w1 := by rw [hw]; exact Kept.alloc0 _ _
  have Na : Hid (Blk w1 w.heap.size 50 #[.slice A1 T.heap.length q1, .slice A2 T.list.length q2, .int .i64 T.next]) := by show Blk _ _ _ _; rw [hw]; exact Blk.new _ _ _
  rw [← hw]
  have Ba := Na
  clear Na
  have y1 := Ba.out.lt
  have K1 := Lib.hid ((Kept.refl 0 0 w).trans hk)
  have z1 := hk.size
  clear hk hw
  have SZ : Hid ((0 : Int) ≤ 1048576 - T.heap.length - T.list.length) := by show _ ≤ _; omega
  have sz := SZ.out
  go_wp2_with fail
  with_reducible refine (szM_pos T _ _ _ _ (HA.out.up K1.out) (by omega) (by omega)).mono ?_
  rintro e w2 ⟨rfl, hk⟩
  have Ra := Lib.hid (Ba.out.kept hk (.inl (Nat.le_refl _)))
  clear Ba
  have Ba := Ra
  clear Ra
  have K2 := Lib.hid (K1.out.trans hk)
  have z2 := hk.size
  clear hk K1
  have ca0 := bx0 Ba.out
  have ca1 := bx1 Ba.out
  have ca2 := bx2 Ba.out
  go_wp2_with fail
  clear ca0 ca1 ca2
  with_reducible refine (toM T _ _ (HA.out.up K2.out) Th Tl).mono ?_
  rintro e w3 ⟨_, rfl, ⟨_, _, rfl, ⟨DAs, dAs, rfl, oa⟩, ⟨DBs, dBs, rfl, ob⟩⟩, hk⟩
  have Ra := Lib.hid (Ba.out.kept hk (.inl (Nat.le_refl _)))
  clear Ba
  have Ba := Ra
  clear Ra
  have Os : Hid (OwnM w3 w2.heap.size w3.heap.size (.agg #[.slice DAs T.heap.length dAs, .slice DBs T.list.length dBs, .int .i64 T.next]) T) := ⟨_, _, rfl, ⟨DAs, dAs, rfl, oa⟩, ⟨DBs, dBs, rfl, ob⟩⟩
  have K3 := Lib.hid (K2.out.trans hk)
  have z3 := hk.size
  clear hk oa ob K2
  obtain ⟨N, hN⟩ : ∃ N, N = stopL T q := ⟨_, rfl⟩
  obtain ⟨bb, hbb⟩ : ∃ bb, bb = stopB T q := ⟨_, rfl⟩
  have NL : N.heap.length ≤ 1048576 ∧ N.list.length ≤ 1048576 := by rw [hN]; exact stopL_len _ _
  have Nh := NL.1
  have Nl := NL.2
  have HN := Lib.hid hN.symm
  have HB := Lib.hid hbb.symm
  clear hN hbb NL
  go_wp2_with fail
  have CN := Lib.hid (stop4_any.at_ T q _ _ (Os.out.rdW (by omega)))
  rw [HN.out, HB.out] at CN
  with_reducible refine CN.out.mono ?_
  rintro e w4 ⟨_, rfl, ⟨_, _, rfl, ⟨DAW, dAW, rfl, oa⟩, ⟨DBW, dBW, rfl, ob⟩⟩, hk⟩
  have Ps := Lib.hid (Os.out.kept hk (.inl (Nat.le_refl _)))
  have Ra := Lib.hid (Ba.out.kept hk (.inl (Nat.le_refl _)))
  clear Os
  have Os := Ps
  clear Ps
  clear Ba
  have Ba := Ra
  clear Ra
  have OW : Hid (OwnM w4 w3.heap.size w4.heap.size (.agg #[.slice DAW N.heap.length dAW, .slice DBW N.list.length dBW, .int .i64 N.next]) N) := ⟨_, _, rfl, ⟨DAW, dAW, rfl, oa⟩, ⟨DBW, dBW, rfl, ob⟩⟩
  have K4 := Lib.hid (K3.out.trans hk)
  have z4 := hk.size
  clear hk oa ob CN K3
  have ca0 := bx0 Ba.out
  have ca1 := bx1 Ba.out
  have ca2 := bx2 Ba.out
  have la : w.heap.size < w4.heap.size := by omega
  go_wp2_with fail
  clear ca0 ca1 ca2
  clear la
  obtain ⟨w5, hw⟩ : ∃ w5, w5 = w4.alloc (.cells #[.slice DAW N.heap.length dAW, .slice DBW N.list.length dBW, .int .i64 N.next] 30) := ⟨_, rfl⟩
  have hk : Kept 0 0 w4 w5 := by rw [hw]; exact Kept.alloc0 _ _
  have Nw : Hid (Blk w5 w4.heap.size 30 #[.slice DAW N.heap.length dAW, .slice DBW N.list.length dBW, .int .i64 N.next]) := by show Blk _ _ _ _; rw [hw]; exact Blk.new _ _ _
  rw [← hw]
  have Ps := Lib.hid (Os.out.kept hk (.inl (Nat.le_refl _)))
  have PW := Lib.hid (OW.out.kept hk (.inl (Nat.le_refl _)))
  have Ra := Lib.hid (Ba.out.kept hk (.inl (Nat.le_refl _)))
  clear Os
  have Os := Ps
  clear Ps
  clear OW
  have OW := PW
  clear PW
  clear Ba
  have Ba := Ra
  clear Ra
  have Bw := Nw
  clear Nw
  have y5 := Bw.out.lt
  have K5 := Lib.hid (K4.out.trans hk)
  have z5 := hk.size
  clear hk hw K4
  clear Os
  with_reducible refine (toM T _ _ (HA.out.up K5.out) Th Tl).mono ?_
  rintro e w6 ⟨_, rfl, ⟨_, _, rfl, ⟨DAx, dAx, rfl, oa⟩, ⟨DBx, dBx, rfl, ob⟩⟩, hk⟩
  have PW := Lib.hid (OW.out.kept hk (.inl (Nat.le_refl _)))
  have Ra := Lib.hid (Ba.out.kept hk (.inl (Nat.le_refl _)))
  have Rw := Lib.hid (Bw.out.kept hk (.inl (Nat.le_refl _)))
  clear OW
  have OW := PW
  clear PW
  clear Ba
  have Ba := Ra
  clear Ra
  clear Bw
  have Bw := Rw
  clear Rw
  have Ox : Hid (OwnM w6 w5.heap.size w6.heap.size (.agg #[.slice DAx T.heap.length dAx, .slice DBx T.list.length dBx, .int .i64 T.next]) T) := ⟨_, _, rfl, ⟨DAx, dAx, rfl, oa⟩, ⟨DBx, dBx, rfl, ob⟩⟩
  have K6 := Lib.hid (K5.out.trans hk)
  have z6 := hk.size
  clear hk oa ob K5
  go_wp2_with fail
  obtain ⟨w7, hw⟩ : ∃ w7, w7 = w6.alloc (.cells #[.slice DAx T.heap.length dAx, .slice DBx T.list.length dBx, .int .i64 T.next] 30) := ⟨_, rfl⟩
  have hk : Kept 0 0 w6 w7 := by rw [hw]; exact Kept.alloc0 _ _
  have Nx : Hid (Blk w7 w6.heap.size 30 #[.slice DAx T.heap.length dAx, .slice DBx T.list.length dBx, .int .i64 T.next]) := by show Blk _ _ _ _; rw [hw]; exact Blk.new _ _ _
  rw [← hw]
  have PW := Lib.hid (OW.out.kept hk (.inl (Nat.le_refl _)))
  have Px := Lib.hid (Ox.out.kept hk (.inl (Nat.le_refl _)))
  have Ra := Lib.hid (Ba.out.kept hk (.inl (Nat.le_refl _)))
  have Rw := Lib.hid (Bw.out.kept hk (.inl (Nat.le_refl _)))
  clear OW
  have OW := PW
  clear PW
  clear Ox
  have Ox := Px
  clear Px
  clear Ba
  have Ba := Ra
  clear Ra
  clear Bw
  have Bw := Rw
  clear Rw
  have Bx := Nx
  clear Nx
  have y7 := Bx.out.lt
  have K7 := Lib.hid (K6.out.trans hk)
  have z7 := hk.size
  clear hk hw K6
  have CN := Lib.hid (implStopped.at_ T q _ _ (Ox.out.rdW (by omega)))
  rw [HN.out, HB.out] at CN
  with_reducible refine CN.out.mono ?_
  rintro e w8 ⟨_, rfl, ⟨_, _, rfl, ⟨DAG, dAG, rfl, oa⟩, ⟨DBG, dBG, rfl, ob⟩⟩, hk⟩
  have PW := Lib.hid (OW.out.kept hk (.inl (Nat.le_refl _)))
  have Px := Lib.hid (Ox.out.kept hk (.inl (Nat.le_refl _)))
  have Ra := Lib.hid (Ba.out.kept hk (.inl (Nat.le_refl _)))
  have Rw := Lib.hid (Bw.out.kept hk (.inl (Nat.le_refl _)))
  have Rx := Lib.hid (Bx.out.kept hk (.inl (Nat.le_refl _)))
  clear OW
  have OW := PW
  clear PW
  clear Ox
  have Ox := Px
  clear Px
  clear Ba
  have Ba := Ra
  clear Ra
  clear Bw
  have Bw := Rw
  clear Rw
  clear Bx
  have Bx := Rx
  clear Rx
  have OG : Hid (OwnM w8 w7.heap.size w8.heap.size (.agg #[.slice DAG N.heap.length dAG, .slice DBG N.list.length dBG, .int .i64 N.next]) N) := ⟨_, _, rfl, ⟨DAG, dAG, rfl, oa⟩, ⟨DBG, dBG, rfl, ob⟩⟩
  have K8 := Lib.hid (K7.out.trans hk)
  have z8 := hk.size
  clear hk oa ob K7
  clear CN
  have cw0 := bx0 Bw.out
  have cw1 := bx1 Bw.out
  have cw2 := bx2 Bw.out
  have lw : w4.heap.size < w8.heap.size := by omega
  go_wp2_with fail
  clear cw0 cw1 cw2
  clear lw
  obtain ⟨w9, hw⟩ : ∃ w9, w9 = w8.alloc (.cells #[.slice DAG N.heap.length dAG, .slice DBG N.list.length dBG, .int .i64 N.next] 30) := ⟨_, rfl⟩
  have hk : Kept 0 0 w8 w9 := by rw [hw]; exact Kept.alloc0 _ _
  have Ng : Hid (Blk w9 w8.heap.size 30 #[.slice DAG N.heap.length dAG, .slice DBG N.list.length dBG, .int .i64 N.next]) := by show Blk _ _ _ _; rw [hw]; exact Blk.new _ _ _
  rw [← hw]
  have PW := Lib.hid (OW.out.kept hk (.inl (Nat.le_refl _)))
  have Px := Lib.hid (Ox.out.kept hk (.inl (Nat.le_refl _)))
  have PG := Lib.hid (OG.out.kept hk (.inl (Nat.le_refl _)))
  have Ra := Lib.hid (Ba.out.kept hk (.inl (Nat.le_refl _)))
  have Rw := Lib.hid (Bw.out.kept hk (.inl (Nat.le_refl _)))
  have Rx := Lib.hid (Bx.out.kept hk (.inl (Nat.le_refl _)))
  clear OW
  have OW := PW
  clear PW
  clear Ox
  have Ox := Px
  clear Px
  clear OG
  have OG := PG
  clear PG
  clear Ba
  have Ba := Ra
  clear Ra
  clear Bw
  have Bw := Rw
  clear Rw
  clear Bx
  have Bx := Rx
  clear Rx
  have Bg := Ng
  clear Ng
  have y9 := Bg.out.lt
  have K9 := Lib.hid (K8.out.trans hk)
  have z9 := hk.size
  clear hk hw K8
  have qq : (bb != bb) = false := by simp
  have qe : (bb == bb) = true := by simp
  with_reducible refine (eqM N _ _ _ (OG.out.rdW (by omega)) (OW.out.rdW (by omega))).mono ?_
  rintro e w10 ⟨rfl, hk⟩
  have PW := Lib.hid (OW.out.kept hk (.inl (Nat.le_refl _)))
  have Px := Lib.hid (Ox.out.kept hk (.inl (Nat.le_refl _)))
  have PG := Lib.hid (OG.out.kept hk (.inl (Nat.le_refl _)))
  have Ra := Lib.hid (Ba.out.kept hk (.inl (Nat.le_refl _)))
  have Rw := Lib.hid (Bw.out.kept hk (.inl (Nat.le_refl _)))
  have Rx := Lib.hid (Bx.out.kept hk (.inl (Nat.le_refl _)))
  have Rg := Lib.hid (Bg.out.kept hk (.inl (Nat.le_refl _)))
  clear OW
  have OW := PW
  clear PW
  clear Ox
  have Ox := Px
  clear Px
  clear OG
  have OG := PG
  clear PG
  clear Ba
  have Ba := Ra
  clear Ra
  clear Bw
  have Bw := Rw
  clear Rw
  clear Bx
  have Bx := Rx
  clear Rx
  clear Bg
  have Bg := Rg
  clear Rg
  have K10 := Lib.hid (K9.out.trans hk)
  have z10 := hk.size
  clear hk K9
  go_upto_region 10 with fail
  go_region_held3 (fun w' => w'.cell? ⟨w6.heap.size, 0, none⟩ = some (.slice DAx T.heap.length dAx) ∧ w'.cell? ⟨w6.heap.size, 1, none⟩ = some (.slice DBx T.list.length dBx) ∧ w'.cell? ⟨w6.heap.size, 2, none⟩ = some (.int .i64 T.next) ∧ w'.cell? ⟨w.heap.size, 0, none⟩ = some (.slice A1 T.heap.length q1) ∧ w'.cell? ⟨w.heap.size, 1, none⟩ = some (.slice A2 T.list.length q2) ∧ w'.cell? ⟨w.heap.size, 2, none⟩ = some (.int .i64 T.next))
    (first | with_reducible exact ⟨bx0 Bx.out.drew, bx1 Bx.out.drew, bx2 Bx.out.drew, bx0 Ba.out.drew, bx1 Ba.out.drew, bx2 Ba.out.drew⟩ | with_reducible exact ⟨bx0 Xx, bx1 Xx, bx2 Xx, bx0 Xa, bx1 Xa, bx2 Xa⟩ | with_reducible exact ⟨bx0 Yx, bx1 Yx, bx2 Yx, bx0 Ya, bx1 Ya, bx2 Ya⟩)
    (first | (go_at_call 27; (with_reducible refine (toM T _ w10.drew (HA.out.up (K10.out).drew) Th Tl).mono ?_); rintro e w11 ⟨_, rfl, ⟨_, _, rfl, ⟨DAy, dAy, rfl, oa⟩, ⟨DBy, dBy, rfl, ob⟩⟩, hk⟩; have k1 : Kept 0 0 w10 w11 := (Kept.refl 0 0 w10).drew.trans hk; have Oy : OwnM w11 w10.drew.heap.size w11.heap.size (.agg #[.slice DAy T.heap.length dAy, .slice DBy T.list.length dBy, .int .i64 T.next]) T := ⟨_, _, rfl, ⟨DAy, dAy, rfl, oa⟩, ⟨DBy, dBy, rfl, ob⟩⟩; have Xx := Bx.out.kept k1 (.inl (Nat.le_refl _)); have Xa := Ba.out.kept k1 (.inl (Nat.le_refl _)); have zz := k1.size; clear hk oa ob) | (go_at_call 28; (with_reducible refine (eqM T _ _ w11 ((Ox.out.kept k1 (.inl (Nat.le_refl _))).rdW (by omega)) (Oy.rdW (Nat.le_refl _))).mono ?_); rintro e w12 ⟨rfl, hk⟩; have k2 : Kept 0 0 w10 w12 := k1.trans hk; have Yx := Bx.out.kept k2 (.inl (Nat.le_refl _)); have Ya := Ba.out.kept k2 (.inl (Nat.le_refl _)); have ks := Lib.hid k2; clear hk))
  clear Xx Xa Yx Ya k1 k2 Oy zz
  have PW := Lib.hid (OW.out.kept ks.out (.inl (Nat.le_refl _)))
  have Px := Lib.hid (Ox.out.kept ks.out (.inl (Nat.le_refl _)))
  have PG := Lib.hid (OG.out.kept ks.out (.inl (Nat.le_refl _)))
  have Ra := Lib.hid (Ba.out.kept ks.out (.inl (Nat.le_refl _)))
  have Rw := Lib.hid (Bw.out.kept ks.out (.inl (Nat.le_refl _)))
  have Rx := Lib.hid (Bx.out.kept ks.out (.inl (Nat.le_refl _)))
  have Rg := Lib.hid (Bg.out.kept ks.out (.inl (Nat.le_refl _)))
  clear OW
  have OW := PW
  clear PW
  clear Ox
  have Ox := Px
  clear Px
  clear OG
  have OG := PG
  clear PG
  clear Ba
  have Ba := Ra
  clear Ra
  clear Bw
  have Bw := Rw
  clear Rw
  clear Bx
  have Bx := Rx
  clear Rx
  clear Bg
  have Bg := Rg
  clear Rg
  have K12 := Lib.hid ((K10.out).trans ks.out)
  have z12 := ks.out.size
  clear ks K10
  obtain ⟨mT, hmT⟩ : ∃ mT, mT = markN 1 T := ⟨_, rfl⟩
  obtain ⟨mN, hmN⟩ : ∃ mN, mN = markN 1 N := ⟨_, rfl⟩
  have pT : 0 ≤ mT := by rw [hmT]; unfold markN; omega
  have pN : 0 ≤ mN := by rw [hmN]; unfold markN; omega
  have HmT := Lib.hid hmT.symm
  have HmN := Lib.hid hmN.symm
  clear hmT hmN
  have cx0 := bx0 Bx.out
  have cx1 := bx1 Bx.out
  have cx2 := bx2 Bx.out
  go_wp2_with fail
  clear cx0 cx1 cx2
  with_reducible refine (markM 1 T _ w5.heap.size w6.heap.size _ Ox.out (by omega) (by omega) Th Tl (by omega)).mono ?_
  rintro e w13 ⟨rfl, ho, hk⟩
  have PW := Lib.hid (OW.out.kept hk (by omega))
  have PG := Lib.hid (OG.out.kept hk (by omega))
  have Ra := Lib.hid (Ba.out.kept hk (by omega))
  have Rw := Lib.hid (Bw.out.kept hk (by omega))
  have Rx := Lib.hid (Bx.out.kept hk (by omega))
  have Rg := Lib.hid (Bg.out.kept hk (by omega))
  clear OW
  have OW := PW
  clear PW
  clear OG
  have OG := PG
  clear PG
  clear Ba
  have Ba := Ra
  clear Ra
  clear Bw
  have Bw := Rw
  clear Rw
  clear Bx
  have Bx := Rx
  clear Rx
  clear Bg
  have Bg := Rg
  clear Rg
  clear Ox
  have Ox := Lib.hid ho
  have K13 := Lib.hid (K12.out.trans2 hk (.inr (by omega)))
  have z13 := hk.size
  clear hk ho K12
  rw [HmT.out]
  have cg0 := bx0 Bg.out
  have cg1 := bx1 Bg.out
  have cg2 := bx2 Bg.out
  have cw0 := bx0 Bw.out
  have cw1 := bx1 Bw.out
  have cw2 := bx2 Bw.out
  go_wp2_with fail
  clear cg0 cg1 cg2 cw0 cw1 cw2
  with_reducible refine (eqM N _ _ _ (OG.out.rdW (by omega)) (OW.out.rdW (by omega))).mono ?_
  rintro e w14 ⟨rfl, hk⟩
  have PW := Lib.hid (OW.out.kept hk (.inl (Nat.le_refl _)))
  have Px := Lib.hid (Ox.out.kept hk (.inl (Nat.le_refl _)))
  have PG := Lib.hid (OG.out.kept hk (.inl (Nat.le_refl _)))
  have Ra := Lib.hid (Ba.out.kept hk (.inl (Nat.le_refl _)))
  have Rw := Lib.hid (Bw.out.kept hk (.inl (Nat.le_refl _)))
  have Rx := Lib.hid (Bx.out.kept hk (.inl (Nat.le_refl _)))
  have Rg := Lib.hid (Bg.out.kept hk (.inl (Nat.le_refl _)))
  clear OW
  have OW := PW
  clear PW
  clear Ox
  have Ox := Px
  clear Px
  clear OG
  have OG := PG
  clear PG
  clear Ba
  have Ba := Ra
  clear Ra
  clear Bw
  have Bw := Rw
  clear Rw
  clear Bx
  have Bx := Rx
  clear Rx
  clear Bg
  have Bg := Rg
  clear Rg
  have K14 := Lib.hid (K13.out.trans hk)
  have z14 := hk.size
  clear hk K13
  have cg0 := bx0 Bg.out
  have cg1 := bx1 Bg.out
  have cg2 := bx2 Bg.out
  go_wp2_with fail
  clear cg0 cg1 cg2
  with_reducible refine (markM 1 N _ w7.heap.size w8.heap.size _ OG.out (by omega) (by omega) Nh Nl (by omega)).mono ?_
  rintro e w15 ⟨rfl, ho, hk⟩
  have PW := Lib.hid (OW.out.kept hk (by omega))
  have Px := Lib.hid (Ox.out.kept hk (by omega))
  have Ra := Lib.hid (Ba.out.kept hk (by omega))
  have Rw := Lib.hid (Bw.out.kept hk (by omega))
  have Rx := Lib.hid (Bx.out.kept hk (by omega))
  have Rg := Lib.hid (Bg.out.kept hk (by omega))
  clear OW
  have OW := PW
  clear PW
  clear Ox
  have Ox := Px
  clear Px
  clear Ba
  have Ba := Ra
  clear Ra
  clear Bw
  have Bw := Rw
  clear Rw
  clear Bx
  have Bx := Rx
  clear Rx
  clear Bg
  have Bg := Rg
  clear Rg
  clear OG
  have OG := Lib.hid ho
  have K15 := Lib.hid (K14.out.trans2 hk (.inr (by omega)))
  have z15 := hk.size
  clear hk ho K14
  rw [HmN.out]
  have cg0 := bx0 Bg.out
  have cg1 := bx1 Bg.out
  have cg2 := bx2 Bg.out
  go_wp2_with fail
  clear cg0 cg1 cg2
  with_reducible refine (heldM 1 N _ _ w8.heap.size (by omega) OG.out.rd (by omega) (by omega) Nh Nl).mono ?_
  rintro e w16 ⟨rfl, hk⟩
  have PW := Lib.hid (OW.out.kept hk (.inl (Nat.le_refl _)))
  have Px := Lib.hid (Ox.out.kept hk (.inl (Nat.le_refl _)))
  have PG := Lib.hid (OG.out.kept hk (.inl (Nat.le_refl _)))
  have Ra := Lib.hid (Ba.out.kept hk (.inl (Nat.le_refl _)))
  have Rw := Lib.hid (Bw.out.kept hk (.inl (Nat.le_refl _)))
  have Rx := Lib.hid (Bx.out.kept hk (.inl (Nat.le_refl _)))
  have Rg := Lib.hid (Bg.out.kept hk (.inl (Nat.le_refl _)))
  clear OW
  have OW := PW
  clear PW
  clear Ox
  have Ox := Px
  clear Px
  clear OG
  have OG := PG
  clear PG
  clear Ba
  have Ba := Ra
  clear Ra
  clear Bw
  have Bw := Rw
  clear Rw
  clear Bx
  have Bx := Rx
  clear Rx
  clear Bg
  have Bg := Rg
  clear Rg
  have K16 := Lib.hid (K15.out.trans hk)
  have z16 := hk.size
  clear hk K15
  rw [HmN.out]
  have qm : (mN != mN) = false := by simp
  clear Ox
  have ca0 := bx0 Ba.out
  have ca1 := bx1 Ba.out
  have ca2 := bx2 Ba.out
  go_wp2_with fail
  clear ca0 ca1 ca2
  with_reducible refine (toM T _ _ (HA.out.up K16.out) Th Tl).mono ?_
  rintro e w17 ⟨_, rfl, ⟨_, _, rfl, ⟨DAt, dAt, rfl, oa⟩, ⟨DBt, dBt, rfl, ob⟩⟩, hk⟩
  have PW := Lib.hid (OW.out.kept hk (.inl (Nat.le_refl _)))
  have PG := Lib.hid (OG.out.kept hk (.inl (Nat.le_refl _)))
  have Ra := Lib.hid (Ba.out.kept hk (.inl (Nat.le_refl _)))
  have Rw := Lib.hid (Bw.out.kept hk (.inl (Nat.le_refl _)))
  have Rx := Lib.hid (Bx.out.kept hk (.inl (Nat.le_refl _)))
  have Rg := Lib.hid (Bg.out.kept hk (.inl (Nat.le_refl _)))
  clear OW
  have OW := PW
  clear PW
  clear OG
  have OG := PG
  clear PG
  clear Ba
  have Ba := Ra
  clear Ra
  clear Bw
  have Bw := Rw
  clear Rw
  clear Bx
  have Bx := Rx
  clear Rx
  clear Bg
  have Bg := Rg
  clear Rg
  have Ot : Hid (OwnM w17 w16.heap.size w17.heap.size (.agg #[.slice DAt T.heap.length dAt, .slice DBt T.list.length dBt, .int .i64 T.next]) T) := ⟨_, _, rfl, ⟨DAt, dAt, rfl, oa⟩, ⟨DBt, dBt, rfl, ob⟩⟩
  have K17 := Lib.hid (K16.out.trans hk)
  have z17 := hk.size
  clear hk oa ob K16
  have CN := Lib.hid (implStopped.at_ T q _ _ (Ot.out.rdW (by omega)))
  rw [HN.out, HB.out] at CN
  go_wp2_with fail
  with_reducible refine CN.out.mono ?_
  rintro e w18 ⟨_, rfl, ⟨_, _, rfl, ⟨DAQ, dAQ, rfl, oa⟩, ⟨DBQ, dBQ, rfl, ob⟩⟩, hk⟩
  have PW := Lib.hid (OW.out.kept hk (.inl (Nat.le_refl _)))
  have PG := Lib.hid (OG.out.kept hk (.inl (Nat.le_refl _)))
  have Pt := Lib.hid (Ot.out.kept hk (.inl (Nat.le_refl _)))
  have Ra := Lib.hid (Ba.out.kept hk (.inl (Nat.le_refl _)))
  have Rw := Lib.hid (Bw.out.kept hk (.inl (Nat.le_refl _)))
  have Rx := Lib.hid (Bx.out.kept hk (.inl (Nat.le_refl _)))
  have Rg := Lib.hid (Bg.out.kept hk (.inl (Nat.le_refl _)))
  clear OW
  have OW := PW
  clear PW
  clear OG
  have OG := PG
  clear PG
  clear Ot
  have Ot := Pt
  clear Pt
  clear Ba
  have Ba := Ra
  clear Ra
  clear Bw
  have Bw := Rw
  clear Rw
  clear Bx
  have Bx := Rx
  clear Rx
  clear Bg
  have Bg := Rg
  clear Rg
  have OQ : Hid (OwnM w18 w17.heap.size w18.heap.size (.agg #[.slice DAQ N.heap.length dAQ, .slice DBQ N.list.length dBQ, .int .i64 N.next]) N) := ⟨_, _, rfl, ⟨DAQ, dAQ, rfl, oa⟩, ⟨DBQ, dBQ, rfl, ob⟩⟩
  have K18 := Lib.hid (K17.out.trans hk)
  have z18 := hk.size
  clear hk oa ob K17
  clear CN
  have cw0 := bx0 Bw.out
  have cw1 := bx1 Bw.out
  have cw2 := bx2 Bw.out
  have lw : w4.heap.size < w18.heap.size := by omega
  go_wp2_with fail
  clear cw0 cw1 cw2
  clear lw
  obtain ⟨w19, hw⟩ : ∃ w19, w19 = w18.alloc (.cells #[.slice DAQ N.heap.length dAQ, .slice DBQ N.list.length dBQ, .int .i64 N.next] 30) := ⟨_, rfl⟩
  have hk : Kept 0 0 w18 w19 := by rw [hw]; exact Kept.alloc0 _ _
  have Nq : Hid (Blk w19 w18.heap.size 30 #[.slice DAQ N.heap.length dAQ, .slice DBQ N.list.length dBQ, .int .i64 N.next]) := by show Blk _ _ _ _; rw [hw]; exact Blk.new _ _ _
  rw [← hw]
  have PW := Lib.hid (OW.out.kept hk (.inl (Nat.le_refl _)))
  have PG := Lib.hid (OG.out.kept hk (.inl (Nat.le_refl _)))
  have Pt := Lib.hid (Ot.out.kept hk (.inl (Nat.le_refl _)))
  have PQ := Lib.hid (OQ.out.kept hk (.inl (Nat.le_refl _)))
  have Ra := Lib.hid (Ba.out.kept hk (.inl (Nat.le_refl _)))
  have Rw := Lib.hid (Bw.out.kept hk (.inl (Nat.le_refl _)))
  have Rx := Lib.hid (Bx.out.kept hk (.inl (Nat.le_refl _)))
  have Rg := Lib.hid (Bg.out.kept hk (.inl (Nat.le_refl _)))
  clear OW
  have OW := PW
  clear PW
  clear OG
  have OG := PG
  clear PG
  clear Ot
  have Ot := Pt
  clear Pt
  clear OQ
  have OQ := PQ
  clear PQ
  clear Ba
  have Ba := Ra
  clear Ra
  clear Bw
  have Bw := Rw
  clear Rw
  clear Bx
  have Bx := Rx
  clear Rx
  clear Bg
  have Bg := Rg
  clear Rg
  have Bq := Nq
  clear Nq
  have y19 := Bq.out.lt
  have K19 := Lib.hid (K18.out.trans hk)
  have z19 := hk.size
  clear hk hw K18
  with_reducible refine (eqM N _ _ _ (OQ.out.rdW (by omega)) (OW.out.rdW (by omega))).mono ?_
  rintro e w20 ⟨rfl, hk⟩
  have PW := Lib.hid (OW.out.kept hk (.inl (Nat.le_refl _)))
  have PG := Lib.hid (OG.out.kept hk (.inl (Nat.le_refl _)))
  have Pt := Lib.hid (Ot.out.kept hk (.inl (Nat.le_refl _)))
  have PQ := Lib.hid (OQ.out.kept hk (.inl (Nat.le_refl _)))
  have Ra := Lib.hid (Ba.out.kept hk (.inl (Nat.le_refl _)))
  have Rw := Lib.hid (Bw.out.kept hk (.inl (Nat.le_refl _)))
  have Rx := Lib.hid (Bx.out.kept hk (.inl (Nat.le_refl _)))
  have Rg := Lib.hid (Bg.out.kept hk (.inl (Nat.le_refl _)))
  have Rq := Lib.hid (Bq.out.kept hk (.inl (Nat.le_refl _)))
  clear OW
  have OW := PW
  clear PW
  clear OG
  have OG := PG
  clear PG
  clear Ot
  have Ot := Pt
  clear Pt
  clear OQ
  have OQ := PQ
  clear PQ
  clear Ba
  have Ba := Ra
  clear Ra
  clear Bw
  have Bw := Rw
  clear Rw
  clear Bx
  have Bx := Rx
  clear Rx
  clear Bg
  have Bg := Rg
  clear Rg
  clear Bq
  have Bq := Rq
  clear Rq
  have K20 := Lib.hid (K19.out.trans hk)
  have z20 := hk.size
  clear hk K19
  have cg0 := bx0 Bg.out
  have cg1 := bx1 Bg.out
  have cg2 := bx2 Bg.out
  go_wp2_with fail
  clear cg0 cg1 cg2
  with_reducible refine (heldM 1 N _ _ w8.heap.size (by omega) OG.out.rd (by omega) (by omega) Nh Nl).mono ?_
  rintro e w21 ⟨rfl, hk⟩
  have PW := Lib.hid (OW.out.kept hk (.inl (Nat.le_refl _)))
  have PG := Lib.hid (OG.out.kept hk (.inl (Nat.le_refl _)))
  have Pt := Lib.hid (Ot.out.kept hk (.inl (Nat.le_refl _)))
  have PQ := Lib.hid (OQ.out.kept hk (.inl (Nat.le_refl _)))
  have Ra := Lib.hid (Ba.out.kept hk (.inl (Nat.le_refl _)))
  have Rw := Lib.hid (Bw.out.kept hk (.inl (Nat.le_refl _)))
  have Rx := Lib.hid (Bx.out.kept hk (.inl (Nat.le_refl _)))
  have Rg := Lib.hid (Bg.out.kept hk (.inl (Nat.le_refl _)))
  have Rq := Lib.hid (Bq.out.kept hk (.inl (Nat.le_refl _)))
  clear OW
  have OW := PW
  clear PW
  clear OG
  have OG := PG
  clear PG
  clear Ot
  have Ot := Pt
  clear Pt
  clear OQ
  have OQ := PQ
  clear PQ
  clear Ba
  have Ba := Ra
  clear Ra
  clear Bw
  have Bw := Rw
  clear Rw
  clear Bx
  have Bx := Rx
  clear Rx
  clear Bg
  have Bg := Rg
  clear Rg
  clear Bq
  have Bq := Rq
  clear Rq
  have K21 := Lib.hid (K20.out.trans hk)
  have z21 := hk.size
  clear hk K20
  rw [HmN.out]
  go_wp2_with fail
  go_ret
  exact ⟨rfl, K21.out⟩
set_option maxHeartbeats 400000 in
theorem lawStopped (T : Tms) (q : Int) (v : Value) (w : World) (h : RdM w w.heap.size v T) :
    Calls Try.prog 7 #[v, .int .i64 q] w fun e w' => e = .returned (.bool true) ∧ Kept 0 0 w w' := by
  rcases Nat.lt_or_ge 1048576 (T.heap.length + T.list.length) with hl | hl
  · obtain ⟨hv, lv, rfl, ⟨A1, q1, rfl, s2⟩, ⟨A2, q2, rfl, s3⟩⟩ := h
    have HA : Hid (RdM w w.heap.size (.agg #[.slice A1 T.heap.length q1, .slice A2 T.list.length q2, .int .i64 T.next]) T) := ⟨_, _, rfl, ⟨A1, q1, rfl, s2⟩, ⟨A2, q2, rfl, s3⟩⟩
    obtain ⟨W, hW⟩ : ∃ W, W = w.alloc (.cells #[.slice A1 T.heap.length q1, .slice A2 T.list.length q2, .int .i64 T.next] 50) := ⟨_, rfl⟩
    have KW : Hid (Kept 0 0 w W) := by show Kept _ _ _ _; rw [hW]; exact Kept.alloc0 _ _
    have CS := Lib.hid (szM_neg T _ 1048576 W _ (HA.out.up KW.out) (by omega) (by omega) (by omega))
    have HW := Lib.hid hW
    clear s2 s3 hW
    go_enter Try.func7, Try.ntmps7
    go_wp2_with fail
    rw [← HW.out]
    with_reducible refine CS.out.mono ?_
    rintro e w1 ⟨rfl, hk⟩
    have K1 := Lib.hid (KW.out.trans hk)
    clear hk CS
    go_wp2
    go_ret
    exact ⟨rfl, K1.out⟩
  · exact lawStopped_small T q v w h hl

set_option maxHeartbeats 6400000 in
theorem lawForgotten_small (T : Tms) (q : Int) (v : Value) (w : World) (h : RdM w w.heap.size v T) (hn : T.heap.length + T.list.length ≤ 1048576) :
    Calls Try.prog 10 #[v, .int .i64 q] w fun e w' => e = .returned (.bool true) ∧ Kept 0 0 w w' := by
  obtain ⟨hv, lv, rfl, ⟨A1, q1, rfl, s2⟩, ⟨A2, q2, rfl, s3⟩⟩ := h
  have HA : Hid (RdM w w.heap.size (.agg #[.slice A1 T.heap.length q1, .slice A2 T.list.length q2, .int .i64 T.next]) T) := ⟨_, _, rfl, ⟨A1, q1, rfl, s2⟩, ⟨A2, q2, rfl, s3⟩⟩
  clear s2 s3
  have Th : T.heap.length ≤ 1048576 := by omega
  have Tl : T.list.length ≤ 1048576 := by omega
  go_enter Try.func10, Try.ntmps10
  go_wp2_with fail
  obtain ⟨w1, hw⟩ : ∃ w1, w1 = w.alloc (.cells #[.slice A1 T.heap.length q1, .slice A2 T.list.length q2, .int .i64 T.next] 50) := ⟨_, rfl⟩
  have hk : Kept 0 0 w w1 := by rw [hw]; exact Kept.alloc0 _ _
  have Na : Hid (Blk w1 w.heap.size 50 #[.slice A1 T.heap.length q1, .slice A2 T.list.length q2, .int .i64 T.next]) := by show Blk _ _ _ _; rw [hw]; exact Blk.new _ _ _
  rw [← hw]
  have Ba := Na
  clear Na
  have y1 := Ba.out.lt
  have K1 := Lib.hid ((Kept.refl 0 0 w).trans hk)
  have z1 := hk.size
  clear hk hw
  have SZ : Hid ((0 : Int) ≤ 1048576 - T.heap.length - T.list.length) := by show _ ≤ _; omega
  have sz := SZ.out
  go_wp2_with fail
  with_reducible refine (szM_pos T _ _ _ _ (HA.out.up K1.out) (by omega) (by omega)).mono ?_
  rintro e w2 ⟨rfl, hk⟩
  have Ra := Lib.hid (Ba.out.kept hk (.inl (Nat.le_refl _)))
  clear Ba
  have Ba := Ra
  clear Ra
  have K2 := Lib.hid (K1.out.trans hk)
  have z2 := hk.size
  clear hk K1
  have ca0 := bx0 Ba.out
  have ca1 := bx1 Ba.out
  have ca2 := bx2 Ba.out
  go_wp2_with fail
  clear ca0 ca1 ca2
  with_reducible refine (toM T _ _ (HA.out.up K2.out) Th Tl).mono ?_
  rintro e w3 ⟨_, rfl, ⟨_, _, rfl, ⟨DAs, dAs, rfl, oa⟩, ⟨DBs, dBs, rfl, ob⟩⟩, hk⟩
  have Ra := Lib.hid (Ba.out.kept hk (.inl (Nat.le_refl _)))
  clear Ba
  have Ba := Ra
  clear Ra
  have Os : Hid (OwnM w3 w2.heap.size w3.heap.size (.agg #[.slice DAs T.heap.length dAs, .slice DBs T.list.length dBs, .int .i64 T.next]) T) := ⟨_, _, rfl, ⟨DAs, dAs, rfl, oa⟩, ⟨DBs, dBs, rfl, ob⟩⟩
  have K3 := Lib.hid (K2.out.trans hk)
  have z3 := hk.size
  clear hk oa ob K2
  obtain ⟨N, hN⟩ : ∃ N, N = forgetL T q := ⟨_, rfl⟩
  obtain ⟨bb, hbb⟩ : ∃ bb, bb = forgetB T q := ⟨_, rfl⟩
  have NL : N.heap.length ≤ 1048576 ∧ N.list.length ≤ 1048576 := by rw [hN]; exact forgetL_len _ _
  have Nh := NL.1
  have Nl := NL.2
  have HN := Lib.hid hN.symm
  have HB := Lib.hid hbb.symm
  clear hN hbb NL
  go_wp2_with fail
  have CN := Lib.hid (forget4_any.at_ T q _ _ (Os.out.rdW (by omega)))
  rw [HN.out, HB.out] at CN
  with_reducible refine CN.out.mono ?_
  rintro e w4 ⟨_, rfl, ⟨_, _, rfl, ⟨DAW, dAW, rfl, oa⟩, ⟨DBW, dBW, rfl, ob⟩⟩, hk⟩
  have Ps := Lib.hid (Os.out.kept hk (.inl (Nat.le_refl _)))
  have Ra := Lib.hid (Ba.out.kept hk (.inl (Nat.le_refl _)))
  clear Os
  have Os := Ps
  clear Ps
  clear Ba
  have Ba := Ra
  clear Ra
  have OW : Hid (OwnM w4 w3.heap.size w4.heap.size (.agg #[.slice DAW N.heap.length dAW, .slice DBW N.list.length dBW, .int .i64 N.next]) N) := ⟨_, _, rfl, ⟨DAW, dAW, rfl, oa⟩, ⟨DBW, dBW, rfl, ob⟩⟩
  have K4 := Lib.hid (K3.out.trans hk)
  have z4 := hk.size
  clear hk oa ob CN K3
  have ca0 := bx0 Ba.out
  have ca1 := bx1 Ba.out
  have ca2 := bx2 Ba.out
  have la : w.heap.size < w4.heap.size := by omega
  go_wp2_with fail
  clear ca0 ca1 ca2
  clear la
  obtain ⟨w5, hw⟩ : ∃ w5, w5 = w4.alloc (.cells #[.slice DAW N.heap.length dAW, .slice DBW N.list.length dBW, .int .i64 N.next] 30) := ⟨_, rfl⟩
  have hk : Kept 0 0 w4 w5 := by rw [hw]; exact Kept.alloc0 _ _
  have Nw : Hid (Blk w5 w4.heap.size 30 #[.slice DAW N.heap.length dAW, .slice DBW N.list.length dBW, .int .i64 N.next]) := by show Blk _ _ _ _; rw [hw]; exact Blk.new _ _ _
  rw [← hw]
  have Ps := Lib.hid (Os.out.kept hk (.inl (Nat.le_refl _)))
  have PW := Lib.hid (OW.out.kept hk (.inl (Nat.le_refl _)))
  have Ra := Lib.hid (Ba.out.kept hk (.inl (Nat.le_refl _)))
  clear Os
  have Os := Ps
  clear Ps
  clear OW
  have OW := PW
  clear PW
  clear Ba
  have Ba := Ra
  clear Ra
  have Bw := Nw
  clear Nw
  have y5 := Bw.out.lt
  have K5 := Lib.hid (K4.out.trans hk)
  have z5 := hk.size
  clear hk hw K4
  clear Os
  with_reducible refine (toM T _ _ (HA.out.up K5.out) Th Tl).mono ?_
  rintro e w6 ⟨_, rfl, ⟨_, _, rfl, ⟨DAx, dAx, rfl, oa⟩, ⟨DBx, dBx, rfl, ob⟩⟩, hk⟩
  have PW := Lib.hid (OW.out.kept hk (.inl (Nat.le_refl _)))
  have Ra := Lib.hid (Ba.out.kept hk (.inl (Nat.le_refl _)))
  have Rw := Lib.hid (Bw.out.kept hk (.inl (Nat.le_refl _)))
  clear OW
  have OW := PW
  clear PW
  clear Ba
  have Ba := Ra
  clear Ra
  clear Bw
  have Bw := Rw
  clear Rw
  have Ox : Hid (OwnM w6 w5.heap.size w6.heap.size (.agg #[.slice DAx T.heap.length dAx, .slice DBx T.list.length dBx, .int .i64 T.next]) T) := ⟨_, _, rfl, ⟨DAx, dAx, rfl, oa⟩, ⟨DBx, dBx, rfl, ob⟩⟩
  have K6 := Lib.hid (K5.out.trans hk)
  have z6 := hk.size
  clear hk oa ob K5
  go_wp2_with fail
  obtain ⟨w7, hw⟩ : ∃ w7, w7 = w6.alloc (.cells #[.slice DAx T.heap.length dAx, .slice DBx T.list.length dBx, .int .i64 T.next] 30) := ⟨_, rfl⟩
  have hk : Kept 0 0 w6 w7 := by rw [hw]; exact Kept.alloc0 _ _
  have Nx : Hid (Blk w7 w6.heap.size 30 #[.slice DAx T.heap.length dAx, .slice DBx T.list.length dBx, .int .i64 T.next]) := by show Blk _ _ _ _; rw [hw]; exact Blk.new _ _ _
  rw [← hw]
  have PW := Lib.hid (OW.out.kept hk (.inl (Nat.le_refl _)))
  have Px := Lib.hid (Ox.out.kept hk (.inl (Nat.le_refl _)))
  have Ra := Lib.hid (Ba.out.kept hk (.inl (Nat.le_refl _)))
  have Rw := Lib.hid (Bw.out.kept hk (.inl (Nat.le_refl _)))
  clear OW
  have OW := PW
  clear PW
  clear Ox
  have Ox := Px
  clear Px
  clear Ba
  have Ba := Ra
  clear Ra
  clear Bw
  have Bw := Rw
  clear Rw
  have Bx := Nx
  clear Nx
  have y7 := Bx.out.lt
  have K7 := Lib.hid (K6.out.trans hk)
  have z7 := hk.size
  clear hk hw K6
  have CN := Lib.hid (implForgotten.at_ T q _ _ (Ox.out.rdW (by omega)))
  rw [HN.out, HB.out] at CN
  with_reducible refine CN.out.mono ?_
  rintro e w8 ⟨_, rfl, ⟨_, _, rfl, ⟨DAG, dAG, rfl, oa⟩, ⟨DBG, dBG, rfl, ob⟩⟩, hk⟩
  have PW := Lib.hid (OW.out.kept hk (.inl (Nat.le_refl _)))
  have Px := Lib.hid (Ox.out.kept hk (.inl (Nat.le_refl _)))
  have Ra := Lib.hid (Ba.out.kept hk (.inl (Nat.le_refl _)))
  have Rw := Lib.hid (Bw.out.kept hk (.inl (Nat.le_refl _)))
  have Rx := Lib.hid (Bx.out.kept hk (.inl (Nat.le_refl _)))
  clear OW
  have OW := PW
  clear PW
  clear Ox
  have Ox := Px
  clear Px
  clear Ba
  have Ba := Ra
  clear Ra
  clear Bw
  have Bw := Rw
  clear Rw
  clear Bx
  have Bx := Rx
  clear Rx
  have OG : Hid (OwnM w8 w7.heap.size w8.heap.size (.agg #[.slice DAG N.heap.length dAG, .slice DBG N.list.length dBG, .int .i64 N.next]) N) := ⟨_, _, rfl, ⟨DAG, dAG, rfl, oa⟩, ⟨DBG, dBG, rfl, ob⟩⟩
  have K8 := Lib.hid (K7.out.trans hk)
  have z8 := hk.size
  clear hk oa ob K7
  clear CN
  have cw0 := bx0 Bw.out
  have cw1 := bx1 Bw.out
  have cw2 := bx2 Bw.out
  have lw : w4.heap.size < w8.heap.size := by omega
  go_wp2_with fail
  clear cw0 cw1 cw2
  clear lw
  obtain ⟨w9, hw⟩ : ∃ w9, w9 = w8.alloc (.cells #[.slice DAG N.heap.length dAG, .slice DBG N.list.length dBG, .int .i64 N.next] 30) := ⟨_, rfl⟩
  have hk : Kept 0 0 w8 w9 := by rw [hw]; exact Kept.alloc0 _ _
  have Ng : Hid (Blk w9 w8.heap.size 30 #[.slice DAG N.heap.length dAG, .slice DBG N.list.length dBG, .int .i64 N.next]) := by show Blk _ _ _ _; rw [hw]; exact Blk.new _ _ _
  rw [← hw]
  have PW := Lib.hid (OW.out.kept hk (.inl (Nat.le_refl _)))
  have Px := Lib.hid (Ox.out.kept hk (.inl (Nat.le_refl _)))
  have PG := Lib.hid (OG.out.kept hk (.inl (Nat.le_refl _)))
  have Ra := Lib.hid (Ba.out.kept hk (.inl (Nat.le_refl _)))
  have Rw := Lib.hid (Bw.out.kept hk (.inl (Nat.le_refl _)))
  have Rx := Lib.hid (Bx.out.kept hk (.inl (Nat.le_refl _)))
  clear OW
  have OW := PW
  clear PW
  clear Ox
  have Ox := Px
  clear Px
  clear OG
  have OG := PG
  clear PG
  clear Ba
  have Ba := Ra
  clear Ra
  clear Bw
  have Bw := Rw
  clear Rw
  clear Bx
  have Bx := Rx
  clear Rx
  have Bg := Ng
  clear Ng
  have y9 := Bg.out.lt
  have K9 := Lib.hid (K8.out.trans hk)
  have z9 := hk.size
  clear hk hw K8
  have qq : (bb != bb) = false := by simp
  have qe : (bb == bb) = true := by simp
  with_reducible refine (eqM N _ _ _ (OG.out.rdW (by omega)) (OW.out.rdW (by omega))).mono ?_
  rintro e w10 ⟨rfl, hk⟩
  have PW := Lib.hid (OW.out.kept hk (.inl (Nat.le_refl _)))
  have Px := Lib.hid (Ox.out.kept hk (.inl (Nat.le_refl _)))
  have PG := Lib.hid (OG.out.kept hk (.inl (Nat.le_refl _)))
  have Ra := Lib.hid (Ba.out.kept hk (.inl (Nat.le_refl _)))
  have Rw := Lib.hid (Bw.out.kept hk (.inl (Nat.le_refl _)))
  have Rx := Lib.hid (Bx.out.kept hk (.inl (Nat.le_refl _)))
  have Rg := Lib.hid (Bg.out.kept hk (.inl (Nat.le_refl _)))
  clear OW
  have OW := PW
  clear PW
  clear Ox
  have Ox := Px
  clear Px
  clear OG
  have OG := PG
  clear PG
  clear Ba
  have Ba := Ra
  clear Ra
  clear Bw
  have Bw := Rw
  clear Rw
  clear Bx
  have Bx := Rx
  clear Rx
  clear Bg
  have Bg := Rg
  clear Rg
  have K10 := Lib.hid (K9.out.trans hk)
  have z10 := hk.size
  clear hk K9
  go_upto_region 10 with fail
  go_region_held3 (fun w' => w'.cell? ⟨w6.heap.size, 0, none⟩ = some (.slice DAx T.heap.length dAx) ∧ w'.cell? ⟨w6.heap.size, 1, none⟩ = some (.slice DBx T.list.length dBx) ∧ w'.cell? ⟨w6.heap.size, 2, none⟩ = some (.int .i64 T.next) ∧ w'.cell? ⟨w.heap.size, 0, none⟩ = some (.slice A1 T.heap.length q1) ∧ w'.cell? ⟨w.heap.size, 1, none⟩ = some (.slice A2 T.list.length q2) ∧ w'.cell? ⟨w.heap.size, 2, none⟩ = some (.int .i64 T.next))
    (first | with_reducible exact ⟨bx0 Bx.out.drew, bx1 Bx.out.drew, bx2 Bx.out.drew, bx0 Ba.out.drew, bx1 Ba.out.drew, bx2 Ba.out.drew⟩ | with_reducible exact ⟨bx0 Xx, bx1 Xx, bx2 Xx, bx0 Xa, bx1 Xa, bx2 Xa⟩ | with_reducible exact ⟨bx0 Yx, bx1 Yx, bx2 Yx, bx0 Ya, bx1 Ya, bx2 Ya⟩)
    (first | (go_at_call 27; (with_reducible refine (toM T _ w10.drew (HA.out.up (K10.out).drew) Th Tl).mono ?_); rintro e w11 ⟨_, rfl, ⟨_, _, rfl, ⟨DAy, dAy, rfl, oa⟩, ⟨DBy, dBy, rfl, ob⟩⟩, hk⟩; have k1 : Kept 0 0 w10 w11 := (Kept.refl 0 0 w10).drew.trans hk; have Oy : OwnM w11 w10.drew.heap.size w11.heap.size (.agg #[.slice DAy T.heap.length dAy, .slice DBy T.list.length dBy, .int .i64 T.next]) T := ⟨_, _, rfl, ⟨DAy, dAy, rfl, oa⟩, ⟨DBy, dBy, rfl, ob⟩⟩; have Xx := Bx.out.kept k1 (.inl (Nat.le_refl _)); have Xa := Ba.out.kept k1 (.inl (Nat.le_refl _)); have zz := k1.size; clear hk oa ob) | (go_at_call 28; (with_reducible refine (eqM T _ _ w11 ((Ox.out.kept k1 (.inl (Nat.le_refl _))).rdW (by omega)) (Oy.rdW (Nat.le_refl _))).mono ?_); rintro e w12 ⟨rfl, hk⟩; have k2 : Kept 0 0 w10 w12 := k1.trans hk; have Yx := Bx.out.kept k2 (.inl (Nat.le_refl _)); have Ya := Ba.out.kept k2 (.inl (Nat.le_refl _)); have ks := Lib.hid k2; clear hk))
  clear Xx Xa Yx Ya k1 k2 Oy zz
  have PW := Lib.hid (OW.out.kept ks.out (.inl (Nat.le_refl _)))
  have Px := Lib.hid (Ox.out.kept ks.out (.inl (Nat.le_refl _)))
  have PG := Lib.hid (OG.out.kept ks.out (.inl (Nat.le_refl _)))
  have Ra := Lib.hid (Ba.out.kept ks.out (.inl (Nat.le_refl _)))
  have Rw := Lib.hid (Bw.out.kept ks.out (.inl (Nat.le_refl _)))
  have Rx := Lib.hid (Bx.out.kept ks.out (.inl (Nat.le_refl _)))
  have Rg := Lib.hid (Bg.out.kept ks.out (.inl (Nat.le_refl _)))
  clear OW
  have OW := PW
  clear PW
  clear Ox
  have Ox := Px
  clear Px
  clear OG
  have OG := PG
  clear PG
  clear Ba
  have Ba := Ra
  clear Ra
  clear Bw
  have Bw := Rw
  clear Rw
  clear Bx
  have Bx := Rx
  clear Rx
  clear Bg
  have Bg := Rg
  clear Rg
  have K12 := Lib.hid ((K10.out).trans ks.out)
  have z12 := ks.out.size
  clear ks K10
  obtain ⟨mT, hmT⟩ : ∃ mT, mT = markN 1 T := ⟨_, rfl⟩
  obtain ⟨mN, hmN⟩ : ∃ mN, mN = markN 1 N := ⟨_, rfl⟩
  have pT : 0 ≤ mT := by rw [hmT]; unfold markN; omega
  have pN : 0 ≤ mN := by rw [hmN]; unfold markN; omega
  have HmT := Lib.hid hmT.symm
  have HmN := Lib.hid hmN.symm
  clear hmT hmN
  have cx0 := bx0 Bx.out
  have cx1 := bx1 Bx.out
  have cx2 := bx2 Bx.out
  go_wp2_with fail
  clear cx0 cx1 cx2
  with_reducible refine (markM 1 T _ w5.heap.size w6.heap.size _ Ox.out (by omega) (by omega) Th Tl (by omega)).mono ?_
  rintro e w13 ⟨rfl, ho, hk⟩
  have PW := Lib.hid (OW.out.kept hk (by omega))
  have PG := Lib.hid (OG.out.kept hk (by omega))
  have Ra := Lib.hid (Ba.out.kept hk (by omega))
  have Rw := Lib.hid (Bw.out.kept hk (by omega))
  have Rx := Lib.hid (Bx.out.kept hk (by omega))
  have Rg := Lib.hid (Bg.out.kept hk (by omega))
  clear OW
  have OW := PW
  clear PW
  clear OG
  have OG := PG
  clear PG
  clear Ba
  have Ba := Ra
  clear Ra
  clear Bw
  have Bw := Rw
  clear Rw
  clear Bx
  have Bx := Rx
  clear Rx
  clear Bg
  have Bg := Rg
  clear Rg
  clear Ox
  have Ox := Lib.hid ho
  have K13 := Lib.hid (K12.out.trans2 hk (.inr (by omega)))
  have z13 := hk.size
  clear hk ho K12
  rw [HmT.out]
  have cg0 := bx0 Bg.out
  have cg1 := bx1 Bg.out
  have cg2 := bx2 Bg.out
  have cw0 := bx0 Bw.out
  have cw1 := bx1 Bw.out
  have cw2 := bx2 Bw.out
  go_wp2_with fail
  clear cg0 cg1 cg2 cw0 cw1 cw2
  with_reducible refine (eqM N _ _ _ (OG.out.rdW (by omega)) (OW.out.rdW (by omega))).mono ?_
  rintro e w14 ⟨rfl, hk⟩
  have PW := Lib.hid (OW.out.kept hk (.inl (Nat.le_refl _)))
  have Px := Lib.hid (Ox.out.kept hk (.inl (Nat.le_refl _)))
  have PG := Lib.hid (OG.out.kept hk (.inl (Nat.le_refl _)))
  have Ra := Lib.hid (Ba.out.kept hk (.inl (Nat.le_refl _)))
  have Rw := Lib.hid (Bw.out.kept hk (.inl (Nat.le_refl _)))
  have Rx := Lib.hid (Bx.out.kept hk (.inl (Nat.le_refl _)))
  have Rg := Lib.hid (Bg.out.kept hk (.inl (Nat.le_refl _)))
  clear OW
  have OW := PW
  clear PW
  clear Ox
  have Ox := Px
  clear Px
  clear OG
  have OG := PG
  clear PG
  clear Ba
  have Ba := Ra
  clear Ra
  clear Bw
  have Bw := Rw
  clear Rw
  clear Bx
  have Bx := Rx
  clear Rx
  clear Bg
  have Bg := Rg
  clear Rg
  have K14 := Lib.hid (K13.out.trans hk)
  have z14 := hk.size
  clear hk K13
  have cg0 := bx0 Bg.out
  have cg1 := bx1 Bg.out
  have cg2 := bx2 Bg.out
  go_wp2_with fail
  clear cg0 cg1 cg2
  with_reducible refine (markM 1 N _ w7.heap.size w8.heap.size _ OG.out (by omega) (by omega) Nh Nl (by omega)).mono ?_
  rintro e w15 ⟨rfl, ho, hk⟩
  have PW := Lib.hid (OW.out.kept hk (by omega))
  have Px := Lib.hid (Ox.out.kept hk (by omega))
  have Ra := Lib.hid (Ba.out.kept hk (by omega))
  have Rw := Lib.hid (Bw.out.kept hk (by omega))
  have Rx := Lib.hid (Bx.out.kept hk (by omega))
  have Rg := Lib.hid (Bg.out.kept hk (by omega))
  clear OW
  have OW := PW
  clear PW
  clear Ox
  have Ox := Px
  clear Px
  clear Ba
  have Ba := Ra
  clear Ra
  clear Bw
  have Bw := Rw
  clear Rw
  clear Bx
  have Bx := Rx
  clear Rx
  clear Bg
  have Bg := Rg
  clear Rg
  clear OG
  have OG := Lib.hid ho
  have K15 := Lib.hid (K14.out.trans2 hk (.inr (by omega)))
  have z15 := hk.size
  clear hk ho K14
  rw [HmN.out]
  have cg0 := bx0 Bg.out
  have cg1 := bx1 Bg.out
  have cg2 := bx2 Bg.out
  go_wp2_with fail
  clear cg0 cg1 cg2
  with_reducible refine (heldM 1 N _ _ w8.heap.size (by omega) OG.out.rd (by omega) (by omega) Nh Nl).mono ?_
  rintro e w16 ⟨rfl, hk⟩
  have PW := Lib.hid (OW.out.kept hk (.inl (Nat.le_refl _)))
  have Px := Lib.hid (Ox.out.kept hk (.inl (Nat.le_refl _)))
  have PG := Lib.hid (OG.out.kept hk (.inl (Nat.le_refl _)))
  have Ra := Lib.hid (Ba.out.kept hk (.inl (Nat.le_refl _)))
  have Rw := Lib.hid (Bw.out.kept hk (.inl (Nat.le_refl _)))
  have Rx := Lib.hid (Bx.out.kept hk (.inl (Nat.le_refl _)))
  have Rg := Lib.hid (Bg.out.kept hk (.inl (Nat.le_refl _)))
  clear OW
  have OW := PW
  clear PW
  clear Ox
  have Ox := Px
  clear Px
  clear OG
  have OG := PG
  clear PG
  clear Ba
  have Ba := Ra
  clear Ra
  clear Bw
  have Bw := Rw
  clear Rw
  clear Bx
  have Bx := Rx
  clear Rx
  clear Bg
  have Bg := Rg
  clear Rg
  have K16 := Lib.hid (K15.out.trans hk)
  have z16 := hk.size
  clear hk K15
  rw [HmN.out]
  have qm : (mN != mN) = false := by simp
  clear Ox
  have ca0 := bx0 Ba.out
  have ca1 := bx1 Ba.out
  have ca2 := bx2 Ba.out
  go_wp2_with fail
  clear ca0 ca1 ca2
  with_reducible refine (toM T _ _ (HA.out.up K16.out) Th Tl).mono ?_
  rintro e w17 ⟨_, rfl, ⟨_, _, rfl, ⟨DAt, dAt, rfl, oa⟩, ⟨DBt, dBt, rfl, ob⟩⟩, hk⟩
  have PW := Lib.hid (OW.out.kept hk (.inl (Nat.le_refl _)))
  have PG := Lib.hid (OG.out.kept hk (.inl (Nat.le_refl _)))
  have Ra := Lib.hid (Ba.out.kept hk (.inl (Nat.le_refl _)))
  have Rw := Lib.hid (Bw.out.kept hk (.inl (Nat.le_refl _)))
  have Rx := Lib.hid (Bx.out.kept hk (.inl (Nat.le_refl _)))
  have Rg := Lib.hid (Bg.out.kept hk (.inl (Nat.le_refl _)))
  clear OW
  have OW := PW
  clear PW
  clear OG
  have OG := PG
  clear PG
  clear Ba
  have Ba := Ra
  clear Ra
  clear Bw
  have Bw := Rw
  clear Rw
  clear Bx
  have Bx := Rx
  clear Rx
  clear Bg
  have Bg := Rg
  clear Rg
  have Ot : Hid (OwnM w17 w16.heap.size w17.heap.size (.agg #[.slice DAt T.heap.length dAt, .slice DBt T.list.length dBt, .int .i64 T.next]) T) := ⟨_, _, rfl, ⟨DAt, dAt, rfl, oa⟩, ⟨DBt, dBt, rfl, ob⟩⟩
  have K17 := Lib.hid (K16.out.trans hk)
  have z17 := hk.size
  clear hk oa ob K16
  have CN := Lib.hid (implForgotten.at_ T q _ _ (Ot.out.rdW (by omega)))
  rw [HN.out, HB.out] at CN
  go_wp2_with fail
  with_reducible refine CN.out.mono ?_
  rintro e w18 ⟨_, rfl, ⟨_, _, rfl, ⟨DAQ, dAQ, rfl, oa⟩, ⟨DBQ, dBQ, rfl, ob⟩⟩, hk⟩
  have PW := Lib.hid (OW.out.kept hk (.inl (Nat.le_refl _)))
  have PG := Lib.hid (OG.out.kept hk (.inl (Nat.le_refl _)))
  have Pt := Lib.hid (Ot.out.kept hk (.inl (Nat.le_refl _)))
  have Ra := Lib.hid (Ba.out.kept hk (.inl (Nat.le_refl _)))
  have Rw := Lib.hid (Bw.out.kept hk (.inl (Nat.le_refl _)))
  have Rx := Lib.hid (Bx.out.kept hk (.inl (Nat.le_refl _)))
  have Rg := Lib.hid (Bg.out.kept hk (.inl (Nat.le_refl _)))
  clear OW
  have OW := PW
  clear PW
  clear OG
  have OG := PG
  clear PG
  clear Ot
  have Ot := Pt
  clear Pt
  clear Ba
  have Ba := Ra
  clear Ra
  clear Bw
  have Bw := Rw
  clear Rw
  clear Bx
  have Bx := Rx
  clear Rx
  clear Bg
  have Bg := Rg
  clear Rg
  have OQ : Hid (OwnM w18 w17.heap.size w18.heap.size (.agg #[.slice DAQ N.heap.length dAQ, .slice DBQ N.list.length dBQ, .int .i64 N.next]) N) := ⟨_, _, rfl, ⟨DAQ, dAQ, rfl, oa⟩, ⟨DBQ, dBQ, rfl, ob⟩⟩
  have K18 := Lib.hid (K17.out.trans hk)
  have z18 := hk.size
  clear hk oa ob K17
  clear CN
  have cw0 := bx0 Bw.out
  have cw1 := bx1 Bw.out
  have cw2 := bx2 Bw.out
  have lw : w4.heap.size < w18.heap.size := by omega
  go_wp2_with fail
  clear cw0 cw1 cw2
  clear lw
  obtain ⟨w19, hw⟩ : ∃ w19, w19 = w18.alloc (.cells #[.slice DAQ N.heap.length dAQ, .slice DBQ N.list.length dBQ, .int .i64 N.next] 30) := ⟨_, rfl⟩
  have hk : Kept 0 0 w18 w19 := by rw [hw]; exact Kept.alloc0 _ _
  have Nq : Hid (Blk w19 w18.heap.size 30 #[.slice DAQ N.heap.length dAQ, .slice DBQ N.list.length dBQ, .int .i64 N.next]) := by show Blk _ _ _ _; rw [hw]; exact Blk.new _ _ _
  rw [← hw]
  have PW := Lib.hid (OW.out.kept hk (.inl (Nat.le_refl _)))
  have PG := Lib.hid (OG.out.kept hk (.inl (Nat.le_refl _)))
  have Pt := Lib.hid (Ot.out.kept hk (.inl (Nat.le_refl _)))
  have PQ := Lib.hid (OQ.out.kept hk (.inl (Nat.le_refl _)))
  have Ra := Lib.hid (Ba.out.kept hk (.inl (Nat.le_refl _)))
  have Rw := Lib.hid (Bw.out.kept hk (.inl (Nat.le_refl _)))
  have Rx := Lib.hid (Bx.out.kept hk (.inl (Nat.le_refl _)))
  have Rg := Lib.hid (Bg.out.kept hk (.inl (Nat.le_refl _)))
  clear OW
  have OW := PW
  clear PW
  clear OG
  have OG := PG
  clear PG
  clear Ot
  have Ot := Pt
  clear Pt
  clear OQ
  have OQ := PQ
  clear PQ
  clear Ba
  have Ba := Ra
  clear Ra
  clear Bw
  have Bw := Rw
  clear Rw
  clear Bx
  have Bx := Rx
  clear Rx
  clear Bg
  have Bg := Rg
  clear Rg
  have Bq := Nq
  clear Nq
  have y19 := Bq.out.lt
  have K19 := Lib.hid (K18.out.trans hk)
  have z19 := hk.size
  clear hk hw K18
  with_reducible refine (eqM N _ _ _ (OQ.out.rdW (by omega)) (OW.out.rdW (by omega))).mono ?_
  rintro e w20 ⟨rfl, hk⟩
  have PW := Lib.hid (OW.out.kept hk (.inl (Nat.le_refl _)))
  have PG := Lib.hid (OG.out.kept hk (.inl (Nat.le_refl _)))
  have Pt := Lib.hid (Ot.out.kept hk (.inl (Nat.le_refl _)))
  have PQ := Lib.hid (OQ.out.kept hk (.inl (Nat.le_refl _)))
  have Ra := Lib.hid (Ba.out.kept hk (.inl (Nat.le_refl _)))
  have Rw := Lib.hid (Bw.out.kept hk (.inl (Nat.le_refl _)))
  have Rx := Lib.hid (Bx.out.kept hk (.inl (Nat.le_refl _)))
  have Rg := Lib.hid (Bg.out.kept hk (.inl (Nat.le_refl _)))
  have Rq := Lib.hid (Bq.out.kept hk (.inl (Nat.le_refl _)))
  clear OW
  have OW := PW
  clear PW
  clear OG
  have OG := PG
  clear PG
  clear Ot
  have Ot := Pt
  clear Pt
  clear OQ
  have OQ := PQ
  clear PQ
  clear Ba
  have Ba := Ra
  clear Ra
  clear Bw
  have Bw := Rw
  clear Rw
  clear Bx
  have Bx := Rx
  clear Rx
  clear Bg
  have Bg := Rg
  clear Rg
  clear Bq
  have Bq := Rq
  clear Rq
  have K20 := Lib.hid (K19.out.trans hk)
  have z20 := hk.size
  clear hk K19
  have cg0 := bx0 Bg.out
  have cg1 := bx1 Bg.out
  have cg2 := bx2 Bg.out
  go_wp2_with fail
  clear cg0 cg1 cg2
  with_reducible refine (heldM 1 N _ _ w8.heap.size (by omega) OG.out.rd (by omega) (by omega) Nh Nl).mono ?_
  rintro e w21 ⟨rfl, hk⟩
  have PW := Lib.hid (OW.out.kept hk (.inl (Nat.le_refl _)))
  have PG := Lib.hid (OG.out.kept hk (.inl (Nat.le_refl _)))
  have Pt := Lib.hid (Ot.out.kept hk (.inl (Nat.le_refl _)))
  have PQ := Lib.hid (OQ.out.kept hk (.inl (Nat.le_refl _)))
  have Ra := Lib.hid (Ba.out.kept hk (.inl (Nat.le_refl _)))
  have Rw := Lib.hid (Bw.out.kept hk (.inl (Nat.le_refl _)))
  have Rx := Lib.hid (Bx.out.kept hk (.inl (Nat.le_refl _)))
  have Rg := Lib.hid (Bg.out.kept hk (.inl (Nat.le_refl _)))
  have Rq := Lib.hid (Bq.out.kept hk (.inl (Nat.le_refl _)))
  clear OW
  have OW := PW
  clear PW
  clear OG
  have OG := PG
  clear PG
  clear Ot
  have Ot := Pt
  clear Pt
  clear OQ
  have OQ := PQ
  clear PQ
  clear Ba
  have Ba := Ra
  clear Ra
  clear Bw
  have Bw := Rw
  clear Rw
  clear Bx
  have Bx := Rx
  clear Rx
  clear Bg
  have Bg := Rg
  clear Rg
  clear Bq
  have Bq := Rq
  clear Rq
  have K21 := Lib.hid (K20.out.trans hk)
  have z21 := hk.size
  clear hk K20
  rw [HmN.out]
  go_wp2_with fail
  go_ret
  exact ⟨rfl, K21.out⟩
set_option maxHeartbeats 400000 in
theorem lawForgotten (T : Tms) (q : Int) (v : Value) (w : World) (h : RdM w w.heap.size v T) :
    Calls Try.prog 10 #[v, .int .i64 q] w fun e w' => e = .returned (.bool true) ∧ Kept 0 0 w w' := by
  rcases Nat.lt_or_ge 1048576 (T.heap.length + T.list.length) with hl | hl
  · obtain ⟨hv, lv, rfl, ⟨A1, q1, rfl, s2⟩, ⟨A2, q2, rfl, s3⟩⟩ := h
    have HA : Hid (RdM w w.heap.size (.agg #[.slice A1 T.heap.length q1, .slice A2 T.list.length q2, .int .i64 T.next]) T) := ⟨_, _, rfl, ⟨A1, q1, rfl, s2⟩, ⟨A2, q2, rfl, s3⟩⟩
    obtain ⟨W, hW⟩ : ∃ W, W = w.alloc (.cells #[.slice A1 T.heap.length q1, .slice A2 T.list.length q2, .int .i64 T.next] 50) := ⟨_, rfl⟩
    have KW : Hid (Kept 0 0 w W) := by show Kept _ _ _ _; rw [hW]; exact Kept.alloc0 _ _
    have CS := Lib.hid (szM_neg T _ 1048576 W _ (HA.out.up KW.out) (by omega) (by omega) (by omega))
    have HW := Lib.hid hW
    clear s2 s3 hW
    go_enter Try.func10, Try.ntmps10
    go_wp2_with fail
    rw [← HW.out]
    with_reducible refine CS.out.mono ?_
    rintro e w1 ⟨rfl, hk⟩
    have K1 := Lib.hid (KW.out.trans hk)
    clear hk CS
    go_wp2
    go_ret
    exact ⟨rfl, K1.out⟩
  · exact lawForgotten_small T q v w h hl

set_option maxHeartbeats 6400000 in
theorem lawReset_small (T : Tms) (q d : Int) (v : Value) (w : World) (h : RdM w w.heap.size v T) (hn : T.heap.length + T.list.length ≤ 1048576) :
    Calls Try.prog 8 #[v, .int .i64 q, .int .i64 d] w fun e w' => e = .returned (.bool true) ∧ Kept 0 0 w w' := by
  obtain ⟨hv, lv, rfl, ⟨A1, q1, rfl, s2⟩, ⟨A2, q2, rfl, s3⟩⟩ := h
  have HA : Hid (RdM w w.heap.size (.agg #[.slice A1 T.heap.length q1, .slice A2 T.list.length q2, .int .i64 T.next]) T) := ⟨_, _, rfl, ⟨A1, q1, rfl, s2⟩, ⟨A2, q2, rfl, s3⟩⟩
  clear s2 s3
  have Th : T.heap.length ≤ 1048576 := by omega
  have Tl : T.list.length ≤ 1048576 := by omega
  go_enter Try.func8, Try.ntmps8
  go_wp2_with fail
  obtain ⟨w1, hw⟩ : ∃ w1, w1 = w.alloc (.cells #[.slice A1 T.heap.length q1, .slice A2 T.list.length q2, .int .i64 T.next] 50) := ⟨_, rfl⟩
  have hk : Kept 0 0 w w1 := by rw [hw]; exact Kept.alloc0 _ _
  have Na : Hid (Blk w1 w.heap.size 50 #[.slice A1 T.heap.length q1, .slice A2 T.list.length q2, .int .i64 T.next]) := by show Blk _ _ _ _; rw [hw]; exact Blk.new _ _ _
  rw [← hw]
  have Ba := Na
  clear Na
  have y1 := Ba.out.lt
  have K1 := Lib.hid ((Kept.refl 0 0 w).trans hk)
  have z1 := hk.size
  clear hk hw
  have SZ : Hid ((0 : Int) ≤ 1048576 - T.heap.length - T.list.length) := by show _ ≤ _; omega
  have sz := SZ.out
  go_wp2_with fail
  with_reducible refine (szM_pos T _ _ _ _ (HA.out.up K1.out) (by omega) (by omega)).mono ?_
  rintro e w2 ⟨rfl, hk⟩
  have Ra := Lib.hid (Ba.out.kept hk (.inl (Nat.le_refl _)))
  clear Ba
  have Ba := Ra
  clear Ra
  have K2 := Lib.hid (K1.out.trans hk)
  have z2 := hk.size
  clear hk K1
  have ca0 := bx0 Ba.out
  have ca1 := bx1 Ba.out
  have ca2 := bx2 Ba.out
  go_wp2_with fail
  clear ca0 ca1 ca2
  with_reducible refine (toM T _ _ (HA.out.up K2.out) Th Tl).mono ?_
  rintro e w3 ⟨_, rfl, ⟨_, _, rfl, ⟨DAs, dAs, rfl, oa⟩, ⟨DBs, dBs, rfl, ob⟩⟩, hk⟩
  have Ra := Lib.hid (Ba.out.kept hk (.inl (Nat.le_refl _)))
  clear Ba
  have Ba := Ra
  clear Ra
  have Os : Hid (OwnM w3 w2.heap.size w3.heap.size (.agg #[.slice DAs T.heap.length dAs, .slice DBs T.list.length dBs, .int .i64 T.next]) T) := ⟨_, _, rfl, ⟨DAs, dAs, rfl, oa⟩, ⟨DBs, dBs, rfl, ob⟩⟩
  have K3 := Lib.hid (K2.out.trans hk)
  have z3 := hk.size
  clear hk oa ob K2
  obtain ⟨N, hN⟩ : ∃ N, N = resetL T q d := ⟨_, rfl⟩
  obtain ⟨bb, hbb⟩ : ∃ bb, bb = resetB T q d := ⟨_, rfl⟩
  have NL : N.heap.length ≤ 1048576 ∧ N.list.length ≤ 1048576 := by rw [hN]; exact resetL_len _ _ _
  have Nh := NL.1
  have Nl := NL.2
  have HN := Lib.hid hN.symm
  have HB := Lib.hid hbb.symm
  clear hN hbb NL
  go_wp2_with fail
  have CN := Lib.hid (reset4_any.at_ T q d _ _ (Os.out.rdW (by omega)))
  rw [HN.out, HB.out] at CN
  with_reducible refine CN.out.mono ?_
  rintro e w4 ⟨_, rfl, ⟨_, _, rfl, ⟨DAW, dAW, rfl, oa⟩, ⟨DBW, dBW, rfl, ob⟩⟩, hk⟩
  have Ps := Lib.hid (Os.out.kept hk (.inl (Nat.le_refl _)))
  have Ra := Lib.hid (Ba.out.kept hk (.inl (Nat.le_refl _)))
  clear Os
  have Os := Ps
  clear Ps
  clear Ba
  have Ba := Ra
  clear Ra
  have OW : Hid (OwnM w4 w3.heap.size w4.heap.size (.agg #[.slice DAW N.heap.length dAW, .slice DBW N.list.length dBW, .int .i64 N.next]) N) := ⟨_, _, rfl, ⟨DAW, dAW, rfl, oa⟩, ⟨DBW, dBW, rfl, ob⟩⟩
  have K4 := Lib.hid (K3.out.trans hk)
  have z4 := hk.size
  clear hk oa ob CN K3
  have ca0 := bx0 Ba.out
  have ca1 := bx1 Ba.out
  have ca2 := bx2 Ba.out
  have la : w.heap.size < w4.heap.size := by omega
  go_wp2_with fail
  clear ca0 ca1 ca2
  clear la
  obtain ⟨w5, hw⟩ : ∃ w5, w5 = w4.alloc (.cells #[.slice DAW N.heap.length dAW, .slice DBW N.list.length dBW, .int .i64 N.next] 30) := ⟨_, rfl⟩
  have hk : Kept 0 0 w4 w5 := by rw [hw]; exact Kept.alloc0 _ _
  have Nw : Hid (Blk w5 w4.heap.size 30 #[.slice DAW N.heap.length dAW, .slice DBW N.list.length dBW, .int .i64 N.next]) := by show Blk _ _ _ _; rw [hw]; exact Blk.new _ _ _
  rw [← hw]
  have Ps := Lib.hid (Os.out.kept hk (.inl (Nat.le_refl _)))
  have PW := Lib.hid (OW.out.kept hk (.inl (Nat.le_refl _)))
  have Ra := Lib.hid (Ba.out.kept hk (.inl (Nat.le_refl _)))
  clear Os
  have Os := Ps
  clear Ps
  clear OW
  have OW := PW
  clear PW
  clear Ba
  have Ba := Ra
  clear Ra
  have Bw := Nw
  clear Nw
  have y5 := Bw.out.lt
  have K5 := Lib.hid (K4.out.trans hk)
  have z5 := hk.size
  clear hk hw K4
  clear Os
  with_reducible refine (toM T _ _ (HA.out.up K5.out) Th Tl).mono ?_
  rintro e w6 ⟨_, rfl, ⟨_, _, rfl, ⟨DAx, dAx, rfl, oa⟩, ⟨DBx, dBx, rfl, ob⟩⟩, hk⟩
  have PW := Lib.hid (OW.out.kept hk (.inl (Nat.le_refl _)))
  have Ra := Lib.hid (Ba.out.kept hk (.inl (Nat.le_refl _)))
  have Rw := Lib.hid (Bw.out.kept hk (.inl (Nat.le_refl _)))
  clear OW
  have OW := PW
  clear PW
  clear Ba
  have Ba := Ra
  clear Ra
  clear Bw
  have Bw := Rw
  clear Rw
  have Ox : Hid (OwnM w6 w5.heap.size w6.heap.size (.agg #[.slice DAx T.heap.length dAx, .slice DBx T.list.length dBx, .int .i64 T.next]) T) := ⟨_, _, rfl, ⟨DAx, dAx, rfl, oa⟩, ⟨DBx, dBx, rfl, ob⟩⟩
  have K6 := Lib.hid (K5.out.trans hk)
  have z6 := hk.size
  clear hk oa ob K5
  go_wp2_with fail
  obtain ⟨w7, hw⟩ : ∃ w7, w7 = w6.alloc (.cells #[.slice DAx T.heap.length dAx, .slice DBx T.list.length dBx, .int .i64 T.next] 30) := ⟨_, rfl⟩
  have hk : Kept 0 0 w6 w7 := by rw [hw]; exact Kept.alloc0 _ _
  have Nx : Hid (Blk w7 w6.heap.size 30 #[.slice DAx T.heap.length dAx, .slice DBx T.list.length dBx, .int .i64 T.next]) := by show Blk _ _ _ _; rw [hw]; exact Blk.new _ _ _
  rw [← hw]
  have PW := Lib.hid (OW.out.kept hk (.inl (Nat.le_refl _)))
  have Px := Lib.hid (Ox.out.kept hk (.inl (Nat.le_refl _)))
  have Ra := Lib.hid (Ba.out.kept hk (.inl (Nat.le_refl _)))
  have Rw := Lib.hid (Bw.out.kept hk (.inl (Nat.le_refl _)))
  clear OW
  have OW := PW
  clear PW
  clear Ox
  have Ox := Px
  clear Px
  clear Ba
  have Ba := Ra
  clear Ra
  clear Bw
  have Bw := Rw
  clear Rw
  have Bx := Nx
  clear Nx
  have y7 := Bx.out.lt
  have K7 := Lib.hid (K6.out.trans hk)
  have z7 := hk.size
  clear hk hw K6
  have CN := Lib.hid (implReset.at_ T q d _ _ (Ox.out.rdW (by omega)))
  rw [HN.out, HB.out] at CN
  with_reducible refine CN.out.mono ?_
  rintro e w8 ⟨_, rfl, ⟨_, _, rfl, ⟨DAG, dAG, rfl, oa⟩, ⟨DBG, dBG, rfl, ob⟩⟩, hk⟩
  have PW := Lib.hid (OW.out.kept hk (.inl (Nat.le_refl _)))
  have Px := Lib.hid (Ox.out.kept hk (.inl (Nat.le_refl _)))
  have Ra := Lib.hid (Ba.out.kept hk (.inl (Nat.le_refl _)))
  have Rw := Lib.hid (Bw.out.kept hk (.inl (Nat.le_refl _)))
  have Rx := Lib.hid (Bx.out.kept hk (.inl (Nat.le_refl _)))
  clear OW
  have OW := PW
  clear PW
  clear Ox
  have Ox := Px
  clear Px
  clear Ba
  have Ba := Ra
  clear Ra
  clear Bw
  have Bw := Rw
  clear Rw
  clear Bx
  have Bx := Rx
  clear Rx
  have OG : Hid (OwnM w8 w7.heap.size w8.heap.size (.agg #[.slice DAG N.heap.length dAG, .slice DBG N.list.length dBG, .int .i64 N.next]) N) := ⟨_, _, rfl, ⟨DAG, dAG, rfl, oa⟩, ⟨DBG, dBG, rfl, ob⟩⟩
  have K8 := Lib.hid (K7.out.trans hk)
  have z8 := hk.size
  clear hk oa ob K7
  clear CN
  have cw0 := bx0 Bw.out
  have cw1 := bx1 Bw.out
  have cw2 := bx2 Bw.out
  have lw : w4.heap.size < w8.heap.size := by omega
  go_wp2_with fail
  clear cw0 cw1 cw2
  clear lw
  obtain ⟨w9, hw⟩ : ∃ w9, w9 = w8.alloc (.cells #[.slice DAG N.heap.length dAG, .slice DBG N.list.length dBG, .int .i64 N.next] 30) := ⟨_, rfl⟩
  have hk : Kept 0 0 w8 w9 := by rw [hw]; exact Kept.alloc0 _ _
  have Ng : Hid (Blk w9 w8.heap.size 30 #[.slice DAG N.heap.length dAG, .slice DBG N.list.length dBG, .int .i64 N.next]) := by show Blk _ _ _ _; rw [hw]; exact Blk.new _ _ _
  rw [← hw]
  have PW := Lib.hid (OW.out.kept hk (.inl (Nat.le_refl _)))
  have Px := Lib.hid (Ox.out.kept hk (.inl (Nat.le_refl _)))
  have PG := Lib.hid (OG.out.kept hk (.inl (Nat.le_refl _)))
  have Ra := Lib.hid (Ba.out.kept hk (.inl (Nat.le_refl _)))
  have Rw := Lib.hid (Bw.out.kept hk (.inl (Nat.le_refl _)))
  have Rx := Lib.hid (Bx.out.kept hk (.inl (Nat.le_refl _)))
  clear OW
  have OW := PW
  clear PW
  clear Ox
  have Ox := Px
  clear Px
  clear OG
  have OG := PG
  clear PG
  clear Ba
  have Ba := Ra
  clear Ra
  clear Bw
  have Bw := Rw
  clear Rw
  clear Bx
  have Bx := Rx
  clear Rx
  have Bg := Ng
  clear Ng
  have y9 := Bg.out.lt
  have K9 := Lib.hid (K8.out.trans hk)
  have z9 := hk.size
  clear hk hw K8
  have qq : (bb != bb) = false := by simp
  have qe : (bb == bb) = true := by simp
  with_reducible refine (eqM N _ _ _ (OG.out.rdW (by omega)) (OW.out.rdW (by omega))).mono ?_
  rintro e w10 ⟨rfl, hk⟩
  have PW := Lib.hid (OW.out.kept hk (.inl (Nat.le_refl _)))
  have Px := Lib.hid (Ox.out.kept hk (.inl (Nat.le_refl _)))
  have PG := Lib.hid (OG.out.kept hk (.inl (Nat.le_refl _)))
  have Ra := Lib.hid (Ba.out.kept hk (.inl (Nat.le_refl _)))
  have Rw := Lib.hid (Bw.out.kept hk (.inl (Nat.le_refl _)))
  have Rx := Lib.hid (Bx.out.kept hk (.inl (Nat.le_refl _)))
  have Rg := Lib.hid (Bg.out.kept hk (.inl (Nat.le_refl _)))
  clear OW
  have OW := PW
  clear PW
  clear Ox
  have Ox := Px
  clear Px
  clear OG
  have OG := PG
  clear PG
  clear Ba
  have Ba := Ra
  clear Ra
  clear Bw
  have Bw := Rw
  clear Rw
  clear Bx
  have Bx := Rx
  clear Rx
  clear Bg
  have Bg := Rg
  clear Rg
  have K10 := Lib.hid (K9.out.trans hk)
  have z10 := hk.size
  clear hk K9
  go_upto_region 10 with fail
  go_region_held3 (fun w' => w'.cell? ⟨w6.heap.size, 0, none⟩ = some (.slice DAx T.heap.length dAx) ∧ w'.cell? ⟨w6.heap.size, 1, none⟩ = some (.slice DBx T.list.length dBx) ∧ w'.cell? ⟨w6.heap.size, 2, none⟩ = some (.int .i64 T.next) ∧ w'.cell? ⟨w.heap.size, 0, none⟩ = some (.slice A1 T.heap.length q1) ∧ w'.cell? ⟨w.heap.size, 1, none⟩ = some (.slice A2 T.list.length q2) ∧ w'.cell? ⟨w.heap.size, 2, none⟩ = some (.int .i64 T.next))
    (first | with_reducible exact ⟨bx0 Bx.out.drew, bx1 Bx.out.drew, bx2 Bx.out.drew, bx0 Ba.out.drew, bx1 Ba.out.drew, bx2 Ba.out.drew⟩ | with_reducible exact ⟨bx0 Xx, bx1 Xx, bx2 Xx, bx0 Xa, bx1 Xa, bx2 Xa⟩ | with_reducible exact ⟨bx0 Yx, bx1 Yx, bx2 Yx, bx0 Ya, bx1 Ya, bx2 Ya⟩)
    (first | (go_at_call 27; (with_reducible refine (toM T _ w10.drew (HA.out.up (K10.out).drew) Th Tl).mono ?_); rintro e w11 ⟨_, rfl, ⟨_, _, rfl, ⟨DAy, dAy, rfl, oa⟩, ⟨DBy, dBy, rfl, ob⟩⟩, hk⟩; have k1 : Kept 0 0 w10 w11 := (Kept.refl 0 0 w10).drew.trans hk; have Oy : OwnM w11 w10.drew.heap.size w11.heap.size (.agg #[.slice DAy T.heap.length dAy, .slice DBy T.list.length dBy, .int .i64 T.next]) T := ⟨_, _, rfl, ⟨DAy, dAy, rfl, oa⟩, ⟨DBy, dBy, rfl, ob⟩⟩; have Xx := Bx.out.kept k1 (.inl (Nat.le_refl _)); have Xa := Ba.out.kept k1 (.inl (Nat.le_refl _)); have zz := k1.size; clear hk oa ob) | (go_at_call 28; (with_reducible refine (eqM T _ _ w11 ((Ox.out.kept k1 (.inl (Nat.le_refl _))).rdW (by omega)) (Oy.rdW (Nat.le_refl _))).mono ?_); rintro e w12 ⟨rfl, hk⟩; have k2 : Kept 0 0 w10 w12 := k1.trans hk; have Yx := Bx.out.kept k2 (.inl (Nat.le_refl _)); have Ya := Ba.out.kept k2 (.inl (Nat.le_refl _)); have ks := Lib.hid k2; clear hk))
  clear Xx Xa Yx Ya k1 k2 Oy zz
  have PW := Lib.hid (OW.out.kept ks.out (.inl (Nat.le_refl _)))
  have Px := Lib.hid (Ox.out.kept ks.out (.inl (Nat.le_refl _)))
  have PG := Lib.hid (OG.out.kept ks.out (.inl (Nat.le_refl _)))
  have Ra := Lib.hid (Ba.out.kept ks.out (.inl (Nat.le_refl _)))
  have Rw := Lib.hid (Bw.out.kept ks.out (.inl (Nat.le_refl _)))
  have Rx := Lib.hid (Bx.out.kept ks.out (.inl (Nat.le_refl _)))
  have Rg := Lib.hid (Bg.out.kept ks.out (.inl (Nat.le_refl _)))
  clear OW
  have OW := PW
  clear PW
  clear Ox
  have Ox := Px
  clear Px
  clear OG
  have OG := PG
  clear PG
  clear Ba
  have Ba := Ra
  clear Ra
  clear Bw
  have Bw := Rw
  clear Rw
  clear Bx
  have Bx := Rx
  clear Rx
  clear Bg
  have Bg := Rg
  clear Rg
  have K12 := Lib.hid ((K10.out).trans ks.out)
  have z12 := ks.out.size
  clear ks K10
  obtain ⟨mT, hmT⟩ : ∃ mT, mT = markN 1 T := ⟨_, rfl⟩
  obtain ⟨mN, hmN⟩ : ∃ mN, mN = markN 1 N := ⟨_, rfl⟩
  have pT : 0 ≤ mT := by rw [hmT]; unfold markN; omega
  have pN : 0 ≤ mN := by rw [hmN]; unfold markN; omega
  have HmT := Lib.hid hmT.symm
  have HmN := Lib.hid hmN.symm
  clear hmT hmN
  have cx0 := bx0 Bx.out
  have cx1 := bx1 Bx.out
  have cx2 := bx2 Bx.out
  go_wp2_with fail
  clear cx0 cx1 cx2
  with_reducible refine (markM 1 T _ w5.heap.size w6.heap.size _ Ox.out (by omega) (by omega) Th Tl (by omega)).mono ?_
  rintro e w13 ⟨rfl, ho, hk⟩
  have PW := Lib.hid (OW.out.kept hk (by omega))
  have PG := Lib.hid (OG.out.kept hk (by omega))
  have Ra := Lib.hid (Ba.out.kept hk (by omega))
  have Rw := Lib.hid (Bw.out.kept hk (by omega))
  have Rx := Lib.hid (Bx.out.kept hk (by omega))
  have Rg := Lib.hid (Bg.out.kept hk (by omega))
  clear OW
  have OW := PW
  clear PW
  clear OG
  have OG := PG
  clear PG
  clear Ba
  have Ba := Ra
  clear Ra
  clear Bw
  have Bw := Rw
  clear Rw
  clear Bx
  have Bx := Rx
  clear Rx
  clear Bg
  have Bg := Rg
  clear Rg
  clear Ox
  have Ox := Lib.hid ho
  have K13 := Lib.hid (K12.out.trans2 hk (.inr (by omega)))
  have z13 := hk.size
  clear hk ho K12
  rw [HmT.out]
  have cg0 := bx0 Bg.out
  have cg1 := bx1 Bg.out
  have cg2 := bx2 Bg.out
  have cw0 := bx0 Bw.out
  have cw1 := bx1 Bw.out
  have cw2 := bx2 Bw.out
  go_wp2_with fail
  clear cg0 cg1 cg2 cw0 cw1 cw2
  with_reducible refine (eqM N _ _ _ (OG.out.rdW (by omega)) (OW.out.rdW (by omega))).mono ?_
  rintro e w14 ⟨rfl, hk⟩
  have PW := Lib.hid (OW.out.kept hk (.inl (Nat.le_refl _)))
  have Px := Lib.hid (Ox.out.kept hk (.inl (Nat.le_refl _)))
  have PG := Lib.hid (OG.out.kept hk (.inl (Nat.le_refl _)))
  have Ra := Lib.hid (Ba.out.kept hk (.inl (Nat.le_refl _)))
  have Rw := Lib.hid (Bw.out.kept hk (.inl (Nat.le_refl _)))
  have Rx := Lib.hid (Bx.out.kept hk (.inl (Nat.le_refl _)))
  have Rg := Lib.hid (Bg.out.kept hk (.inl (Nat.le_refl _)))
  clear OW
  have OW := PW
  clear PW
  clear Ox
  have Ox := Px
  clear Px
  clear OG
  have OG := PG
  clear PG
  clear Ba
  have Ba := Ra
  clear Ra
  clear Bw
  have Bw := Rw
  clear Rw
  clear Bx
  have Bx := Rx
  clear Rx
  clear Bg
  have Bg := Rg
  clear Rg
  have K14 := Lib.hid (K13.out.trans hk)
  have z14 := hk.size
  clear hk K13
  have cg0 := bx0 Bg.out
  have cg1 := bx1 Bg.out
  have cg2 := bx2 Bg.out
  go_wp2_with fail
  clear cg0 cg1 cg2
  with_reducible refine (markM 1 N _ w7.heap.size w8.heap.size _ OG.out (by omega) (by omega) Nh Nl (by omega)).mono ?_
  rintro e w15 ⟨rfl, ho, hk⟩
  have PW := Lib.hid (OW.out.kept hk (by omega))
  have Px := Lib.hid (Ox.out.kept hk (by omega))
  have Ra := Lib.hid (Ba.out.kept hk (by omega))
  have Rw := Lib.hid (Bw.out.kept hk (by omega))
  have Rx := Lib.hid (Bx.out.kept hk (by omega))
  have Rg := Lib.hid (Bg.out.kept hk (by omega))
  clear OW
  have OW := PW
  clear PW
  clear Ox
  have Ox := Px
  clear Px
  clear Ba
  have Ba := Ra
  clear Ra
  clear Bw
  have Bw := Rw
  clear Rw
  clear Bx
  have Bx := Rx
  clear Rx
  clear Bg
  have Bg := Rg
  clear Rg
  clear OG
  have OG := Lib.hid ho
  have K15 := Lib.hid (K14.out.trans2 hk (.inr (by omega)))
  have z15 := hk.size
  clear hk ho K14
  rw [HmN.out]
  have cg0 := bx0 Bg.out
  have cg1 := bx1 Bg.out
  have cg2 := bx2 Bg.out
  go_wp2_with fail
  clear cg0 cg1 cg2
  with_reducible refine (heldM 1 N _ _ w8.heap.size (by omega) OG.out.rd (by omega) (by omega) Nh Nl).mono ?_
  rintro e w16 ⟨rfl, hk⟩
  have PW := Lib.hid (OW.out.kept hk (.inl (Nat.le_refl _)))
  have Px := Lib.hid (Ox.out.kept hk (.inl (Nat.le_refl _)))
  have PG := Lib.hid (OG.out.kept hk (.inl (Nat.le_refl _)))
  have Ra := Lib.hid (Ba.out.kept hk (.inl (Nat.le_refl _)))
  have Rw := Lib.hid (Bw.out.kept hk (.inl (Nat.le_refl _)))
  have Rx := Lib.hid (Bx.out.kept hk (.inl (Nat.le_refl _)))
  have Rg := Lib.hid (Bg.out.kept hk (.inl (Nat.le_refl _)))
  clear OW
  have OW := PW
  clear PW
  clear Ox
  have Ox := Px
  clear Px
  clear OG
  have OG := PG
  clear PG
  clear Ba
  have Ba := Ra
  clear Ra
  clear Bw
  have Bw := Rw
  clear Rw
  clear Bx
  have Bx := Rx
  clear Rx
  clear Bg
  have Bg := Rg
  clear Rg
  have K16 := Lib.hid (K15.out.trans hk)
  have z16 := hk.size
  clear hk K15
  rw [HmN.out]
  have qm : (mN != mN) = false := by simp
  clear Ox
  have ca0 := bx0 Ba.out
  have ca1 := bx1 Ba.out
  have ca2 := bx2 Ba.out
  go_wp2_with fail
  clear ca0 ca1 ca2
  with_reducible refine (toM T _ _ (HA.out.up K16.out) Th Tl).mono ?_
  rintro e w17 ⟨_, rfl, ⟨_, _, rfl, ⟨DAt, dAt, rfl, oa⟩, ⟨DBt, dBt, rfl, ob⟩⟩, hk⟩
  have PW := Lib.hid (OW.out.kept hk (.inl (Nat.le_refl _)))
  have PG := Lib.hid (OG.out.kept hk (.inl (Nat.le_refl _)))
  have Ra := Lib.hid (Ba.out.kept hk (.inl (Nat.le_refl _)))
  have Rw := Lib.hid (Bw.out.kept hk (.inl (Nat.le_refl _)))
  have Rx := Lib.hid (Bx.out.kept hk (.inl (Nat.le_refl _)))
  have Rg := Lib.hid (Bg.out.kept hk (.inl (Nat.le_refl _)))
  clear OW
  have OW := PW
  clear PW
  clear OG
  have OG := PG
  clear PG
  clear Ba
  have Ba := Ra
  clear Ra
  clear Bw
  have Bw := Rw
  clear Rw
  clear Bx
  have Bx := Rx
  clear Rx
  clear Bg
  have Bg := Rg
  clear Rg
  have Ot : Hid (OwnM w17 w16.heap.size w17.heap.size (.agg #[.slice DAt T.heap.length dAt, .slice DBt T.list.length dBt, .int .i64 T.next]) T) := ⟨_, _, rfl, ⟨DAt, dAt, rfl, oa⟩, ⟨DBt, dBt, rfl, ob⟩⟩
  have K17 := Lib.hid (K16.out.trans hk)
  have z17 := hk.size
  clear hk oa ob K16
  have CN := Lib.hid (implReset.at_ T q d _ _ (Ot.out.rdW (by omega)))
  rw [HN.out, HB.out] at CN
  go_wp2_with fail
  with_reducible refine CN.out.mono ?_
  rintro e w18 ⟨_, rfl, ⟨_, _, rfl, ⟨DAQ, dAQ, rfl, oa⟩, ⟨DBQ, dBQ, rfl, ob⟩⟩, hk⟩
  have PW := Lib.hid (OW.out.kept hk (.inl (Nat.le_refl _)))
  have PG := Lib.hid (OG.out.kept hk (.inl (Nat.le_refl _)))
  have Pt := Lib.hid (Ot.out.kept hk (.inl (Nat.le_refl _)))
  have Ra := Lib.hid (Ba.out.kept hk (.inl (Nat.le_refl _)))
  have Rw := Lib.hid (Bw.out.kept hk (.inl (Nat.le_refl _)))
  have Rx := Lib.hid (Bx.out.kept hk (.inl (Nat.le_refl _)))
  have Rg := Lib.hid (Bg.out.kept hk (.inl (Nat.le_refl _)))
  clear OW
  have OW := PW
  clear PW
  clear OG
  have OG := PG
  clear PG
  clear Ot
  have Ot := Pt
  clear Pt
  clear Ba
  have Ba := Ra
  clear Ra
  clear Bw
  have Bw := Rw
  clear Rw
  clear Bx
  have Bx := Rx
  clear Rx
  clear Bg
  have Bg := Rg
  clear Rg
  have OQ : Hid (OwnM w18 w17.heap.size w18.heap.size (.agg #[.slice DAQ N.heap.length dAQ, .slice DBQ N.list.length dBQ, .int .i64 N.next]) N) := ⟨_, _, rfl, ⟨DAQ, dAQ, rfl, oa⟩, ⟨DBQ, dBQ, rfl, ob⟩⟩
  have K18 := Lib.hid (K17.out.trans hk)
  have z18 := hk.size
  clear hk oa ob K17
  clear CN
  have cw0 := bx0 Bw.out
  have cw1 := bx1 Bw.out
  have cw2 := bx2 Bw.out
  have lw : w4.heap.size < w18.heap.size := by omega
  go_wp2_with fail
  clear cw0 cw1 cw2
  clear lw
  obtain ⟨w19, hw⟩ : ∃ w19, w19 = w18.alloc (.cells #[.slice DAQ N.heap.length dAQ, .slice DBQ N.list.length dBQ, .int .i64 N.next] 30) := ⟨_, rfl⟩
  have hk : Kept 0 0 w18 w19 := by rw [hw]; exact Kept.alloc0 _ _
  have Nq : Hid (Blk w19 w18.heap.size 30 #[.slice DAQ N.heap.length dAQ, .slice DBQ N.list.length dBQ, .int .i64 N.next]) := by show Blk _ _ _ _; rw [hw]; exact Blk.new _ _ _
  rw [← hw]
  have PW := Lib.hid (OW.out.kept hk (.inl (Nat.le_refl _)))
  have PG := Lib.hid (OG.out.kept hk (.inl (Nat.le_refl _)))
  have Pt := Lib.hid (Ot.out.kept hk (.inl (Nat.le_refl _)))
  have PQ := Lib.hid (OQ.out.kept hk (.inl (Nat.le_refl _)))
  have Ra := Lib.hid (Ba.out.kept hk (.inl (Nat.le_refl _)))
  have Rw := Lib.hid (Bw.out.kept hk (.inl (Nat.le_refl _)))
  have Rx := Lib.hid (Bx.out.kept hk (.inl (Nat.le_refl _)))
  have Rg := Lib.hid (Bg.out.kept hk (.inl (Nat.le_refl _)))
  clear OW
  have OW := PW
  clear PW
  clear OG
  have OG := PG
  clear PG
  clear Ot
  have Ot := Pt
  clear Pt
  clear OQ
  have OQ := PQ
  clear PQ
  clear Ba
  have Ba := Ra
  clear Ra
  clear Bw
  have Bw := Rw
  clear Rw
  clear Bx
  have Bx := Rx
  clear Rx
  clear Bg
  have Bg := Rg
  clear Rg
  have Bq := Nq
  clear Nq
  have y19 := Bq.out.lt
  have K19 := Lib.hid (K18.out.trans hk)
  have z19 := hk.size
  clear hk hw K18
  with_reducible refine (eqM N _ _ _ (OQ.out.rdW (by omega)) (OW.out.rdW (by omega))).mono ?_
  rintro e w20 ⟨rfl, hk⟩
  have PW := Lib.hid (OW.out.kept hk (.inl (Nat.le_refl _)))
  have PG := Lib.hid (OG.out.kept hk (.inl (Nat.le_refl _)))
  have Pt := Lib.hid (Ot.out.kept hk (.inl (Nat.le_refl _)))
  have PQ := Lib.hid (OQ.out.kept hk (.inl (Nat.le_refl _)))
  have Ra := Lib.hid (Ba.out.kept hk (.inl (Nat.le_refl _)))
  have Rw := Lib.hid (Bw.out.kept hk (.inl (Nat.le_refl _)))
  have Rx := Lib.hid (Bx.out.kept hk (.inl (Nat.le_refl _)))
  have Rg := Lib.hid (Bg.out.kept hk (.inl (Nat.le_refl _)))
  have Rq := Lib.hid (Bq.out.kept hk (.inl (Nat.le_refl _)))
  clear OW
  have OW := PW
  clear PW
  clear OG
  have OG := PG
  clear PG
  clear Ot
  have Ot := Pt
  clear Pt
  clear OQ
  have OQ := PQ
  clear PQ
  clear Ba
  have Ba := Ra
  clear Ra
  clear Bw
  have Bw := Rw
  clear Rw
  clear Bx
  have Bx := Rx
  clear Rx
  clear Bg
  have Bg := Rg
  clear Rg
  clear Bq
  have Bq := Rq
  clear Rq
  have K20 := Lib.hid (K19.out.trans hk)
  have z20 := hk.size
  clear hk K19
  have cg0 := bx0 Bg.out
  have cg1 := bx1 Bg.out
  have cg2 := bx2 Bg.out
  go_wp2_with fail
  clear cg0 cg1 cg2
  with_reducible refine (heldM 1 N _ _ w8.heap.size (by omega) OG.out.rd (by omega) (by omega) Nh Nl).mono ?_
  rintro e w21 ⟨rfl, hk⟩
  have PW := Lib.hid (OW.out.kept hk (.inl (Nat.le_refl _)))
  have PG := Lib.hid (OG.out.kept hk (.inl (Nat.le_refl _)))
  have Pt := Lib.hid (Ot.out.kept hk (.inl (Nat.le_refl _)))
  have PQ := Lib.hid (OQ.out.kept hk (.inl (Nat.le_refl _)))
  have Ra := Lib.hid (Ba.out.kept hk (.inl (Nat.le_refl _)))
  have Rw := Lib.hid (Bw.out.kept hk (.inl (Nat.le_refl _)))
  have Rx := Lib.hid (Bx.out.kept hk (.inl (Nat.le_refl _)))
  have Rg := Lib.hid (Bg.out.kept hk (.inl (Nat.le_refl _)))
  have Rq := Lib.hid (Bq.out.kept hk (.inl (Nat.le_refl _)))
  clear OW
  have OW := PW
  clear PW
  clear OG
  have OG := PG
  clear PG
  clear Ot
  have Ot := Pt
  clear Pt
  clear OQ
  have OQ := PQ
  clear PQ
  clear Ba
  have Ba := Ra
  clear Ra
  clear Bw
  have Bw := Rw
  clear Rw
  clear Bx
  have Bx := Rx
  clear Rx
  clear Bg
  have Bg := Rg
  clear Rg
  clear Bq
  have Bq := Rq
  clear Rq
  have K21 := Lib.hid (K20.out.trans hk)
  have z21 := hk.size
  clear hk K20
  rw [HmN.out]
  go_wp2_with fail
  go_ret
  exact ⟨rfl, K21.out⟩
set_option maxHeartbeats 400000 in
theorem lawReset (T : Tms) (q d : Int) (v : Value) (w : World) (h : RdM w w.heap.size v T) :
    Calls Try.prog 8 #[v, .int .i64 q, .int .i64 d] w fun e w' => e = .returned (.bool true) ∧ Kept 0 0 w w' := by
  rcases Nat.lt_or_ge 1048576 (T.heap.length + T.list.length) with hl | hl
  · obtain ⟨hv, lv, rfl, ⟨A1, q1, rfl, s2⟩, ⟨A2, q2, rfl, s3⟩⟩ := h
    have HA : Hid (RdM w w.heap.size (.agg #[.slice A1 T.heap.length q1, .slice A2 T.list.length q2, .int .i64 T.next]) T) := ⟨_, _, rfl, ⟨A1, q1, rfl, s2⟩, ⟨A2, q2, rfl, s3⟩⟩
    obtain ⟨W, hW⟩ : ∃ W, W = w.alloc (.cells #[.slice A1 T.heap.length q1, .slice A2 T.list.length q2, .int .i64 T.next] 50) := ⟨_, rfl⟩
    have KW : Hid (Kept 0 0 w W) := by show Kept _ _ _ _; rw [hW]; exact Kept.alloc0 _ _
    have CS := Lib.hid (szM_neg T _ 1048576 W _ (HA.out.up KW.out) (by omega) (by omega) (by omega))
    have HW := Lib.hid hW
    clear s2 s3 hW
    go_enter Try.func8, Try.ntmps8
    go_wp2_with fail
    rw [← HW.out]
    with_reducible refine CS.out.mono ?_
    rintro e w1 ⟨rfl, hk⟩
    have K1 := Lib.hid (KW.out.trans hk)
    clear hk CS
    go_wp2
    go_ret
    exact ⟨rfl, K1.out⟩
  · exact lawReset_small T q d v w h hl

set_option maxHeartbeats 6400000 in
theorem lawArmed_small (T : Tms) (p q r : Int) (v : Value) (w : World) (h : RdM w w.heap.size v T) (hn : T.heap.length + T.list.length ≤ 1048576) :
    Calls Try.prog 6 #[v, .int .i64 p, .int .i64 q, .int .i64 r] w fun e w' => e = .returned (.bool true) ∧ Kept 0 0 w w' := by
  obtain ⟨hv, lv, rfl, ⟨A1, q1, rfl, s2⟩, ⟨A2, q2, rfl, s3⟩⟩ := h
  have HA : Hid (RdM w w.heap.size (.agg #[.slice A1 T.heap.length q1, .slice A2 T.list.length q2, .int .i64 T.next]) T) := ⟨_, _, rfl, ⟨A1, q1, rfl, s2⟩, ⟨A2, q2, rfl, s3⟩⟩
  clear s2 s3
  have Th : T.heap.length ≤ 1048576 := by omega
  have Tl : T.list.length ≤ 1048576 := by omega
  go_enter Try.func6, Try.ntmps6
  go_wp2_with fail
  obtain ⟨w1, hw⟩ : ∃ w1, w1 = w.alloc (.cells #[.slice A1 T.heap.length q1, .slice A2 T.list.length q2, .int .i64 T.next] 50) := ⟨_, rfl⟩
  have hk : Kept 0 0 w w1 := by rw [hw]; exact Kept.alloc0 _ _
  have Na : Hid (Blk w1 w.heap.size 50 #[.slice A1 T.heap.length q1, .slice A2 T.list.length q2, .int .i64 T.next]) := by show Blk _ _ _ _; rw [hw]; exact Blk.new _ _ _
  rw [← hw]
  have Ba := Na
  clear Na
  have y1 := Ba.out.lt
  have K1 := Lib.hid ((Kept.refl 0 0 w).trans hk)
  have z1 := hk.size
  clear hk hw
  have SZ : Hid ((0 : Int) ≤ 1048576 - T.heap.length - T.list.length) := by show _ ≤ _; omega
  have sz := SZ.out
  go_wp2_with fail
  with_reducible refine (szM_pos T _ _ _ _ (HA.out.up K1.out) (by omega) (by omega)).mono ?_
  rintro e w2 ⟨rfl, hk⟩
  have Ra := Lib.hid (Ba.out.kept hk (.inl (Nat.le_refl _)))
  clear Ba
  have Ba := Ra
  clear Ra
  have K2 := Lib.hid (K1.out.trans hk)
  have z2 := hk.size
  clear hk K1
  have ca0 := bx0 Ba.out
  have ca1 := bx1 Ba.out
  have ca2 := bx2 Ba.out
  go_wp2_with fail
  clear ca0 ca1 ca2
  with_reducible refine (toM T _ _ (HA.out.up K2.out) Th Tl).mono ?_
  rintro e w3 ⟨_, rfl, ⟨_, _, rfl, ⟨DAs, dAs, rfl, oa⟩, ⟨DBs, dBs, rfl, ob⟩⟩, hk⟩
  have Ra := Lib.hid (Ba.out.kept hk (.inl (Nat.le_refl _)))
  clear Ba
  have Ba := Ra
  clear Ra
  have Os : Hid (OwnM w3 w2.heap.size w3.heap.size (.agg #[.slice DAs T.heap.length dAs, .slice DBs T.list.length dBs, .int .i64 T.next]) T) := ⟨_, _, rfl, ⟨DAs, dAs, rfl, oa⟩, ⟨DBs, dBs, rfl, ob⟩⟩
  have K3 := Lib.hid (K2.out.trans hk)
  have z3 := hk.size
  clear hk oa ob K2
  obtain ⟨N, hN⟩ : ∃ N, N = armL T p q r := ⟨_, rfl⟩
  obtain ⟨bb, hbb⟩ : ∃ bb, bb = armI T p q r := ⟨_, rfl⟩
  have NL : N.heap.length ≤ 1048576 ∧ N.list.length ≤ 1048576 := by rw [hN]; exact armL_len _ _ _ _
  have Nh := NL.1
  have Nl := NL.2
  have HN := Lib.hid hN.symm
  have HB := Lib.hid hbb.symm
  clear hN hbb NL
  go_wp2_with fail
  have CN := Lib.hid (arm4_any.at_ T p q r _ _ (Os.out.rdW (by omega)))
  rw [HN.out, HB.out] at CN
  with_reducible refine CN.out.mono ?_
  rintro e w4 ⟨_, rfl, ⟨_, _, rfl, ⟨DAW, dAW, rfl, oa⟩, ⟨DBW, dBW, rfl, ob⟩⟩, hk⟩
  have Ps := Lib.hid (Os.out.kept hk (.inl (Nat.le_refl _)))
  have Ra := Lib.hid (Ba.out.kept hk (.inl (Nat.le_refl _)))
  clear Os
  have Os := Ps
  clear Ps
  clear Ba
  have Ba := Ra
  clear Ra
  have OW : Hid (OwnM w4 w3.heap.size w4.heap.size (.agg #[.slice DAW N.heap.length dAW, .slice DBW N.list.length dBW, .int .i64 N.next]) N) := ⟨_, _, rfl, ⟨DAW, dAW, rfl, oa⟩, ⟨DBW, dBW, rfl, ob⟩⟩
  have K4 := Lib.hid (K3.out.trans hk)
  have z4 := hk.size
  clear hk oa ob CN K3
  have ca0 := bx0 Ba.out
  have ca1 := bx1 Ba.out
  have ca2 := bx2 Ba.out
  have la : w.heap.size < w4.heap.size := by omega
  go_wp2_with fail
  clear ca0 ca1 ca2
  clear la
  obtain ⟨w5, hw⟩ : ∃ w5, w5 = w4.alloc (.cells #[.slice DAW N.heap.length dAW, .slice DBW N.list.length dBW, .int .i64 N.next] 30) := ⟨_, rfl⟩
  have hk : Kept 0 0 w4 w5 := by rw [hw]; exact Kept.alloc0 _ _
  have Nw : Hid (Blk w5 w4.heap.size 30 #[.slice DAW N.heap.length dAW, .slice DBW N.list.length dBW, .int .i64 N.next]) := by show Blk _ _ _ _; rw [hw]; exact Blk.new _ _ _
  rw [← hw]
  have Ps := Lib.hid (Os.out.kept hk (.inl (Nat.le_refl _)))
  have PW := Lib.hid (OW.out.kept hk (.inl (Nat.le_refl _)))
  have Ra := Lib.hid (Ba.out.kept hk (.inl (Nat.le_refl _)))
  clear Os
  have Os := Ps
  clear Ps
  clear OW
  have OW := PW
  clear PW
  clear Ba
  have Ba := Ra
  clear Ra
  have Bw := Nw
  clear Nw
  have y5 := Bw.out.lt
  have K5 := Lib.hid (K4.out.trans hk)
  have z5 := hk.size
  clear hk hw K4
  clear Os
  with_reducible refine (toM T _ _ (HA.out.up K5.out) Th Tl).mono ?_
  rintro e w6 ⟨_, rfl, ⟨_, _, rfl, ⟨DAx, dAx, rfl, oa⟩, ⟨DBx, dBx, rfl, ob⟩⟩, hk⟩
  have PW := Lib.hid (OW.out.kept hk (.inl (Nat.le_refl _)))
  have Ra := Lib.hid (Ba.out.kept hk (.inl (Nat.le_refl _)))
  have Rw := Lib.hid (Bw.out.kept hk (.inl (Nat.le_refl _)))
  clear OW
  have OW := PW
  clear PW
  clear Ba
  have Ba := Ra
  clear Ra
  clear Bw
  have Bw := Rw
  clear Rw
  have Ox : Hid (OwnM w6 w5.heap.size w6.heap.size (.agg #[.slice DAx T.heap.length dAx, .slice DBx T.list.length dBx, .int .i64 T.next]) T) := ⟨_, _, rfl, ⟨DAx, dAx, rfl, oa⟩, ⟨DBx, dBx, rfl, ob⟩⟩
  have K6 := Lib.hid (K5.out.trans hk)
  have z6 := hk.size
  clear hk oa ob K5
  go_wp2_with fail
  obtain ⟨w7, hw⟩ : ∃ w7, w7 = w6.alloc (.cells #[.slice DAx T.heap.length dAx, .slice DBx T.list.length dBx, .int .i64 T.next] 30) := ⟨_, rfl⟩
  have hk : Kept 0 0 w6 w7 := by rw [hw]; exact Kept.alloc0 _ _
  have Nx : Hid (Blk w7 w6.heap.size 30 #[.slice DAx T.heap.length dAx, .slice DBx T.list.length dBx, .int .i64 T.next]) := by show Blk _ _ _ _; rw [hw]; exact Blk.new _ _ _
  rw [← hw]
  have PW := Lib.hid (OW.out.kept hk (.inl (Nat.le_refl _)))
  have Px := Lib.hid (Ox.out.kept hk (.inl (Nat.le_refl _)))
  have Ra := Lib.hid (Ba.out.kept hk (.inl (Nat.le_refl _)))
  have Rw := Lib.hid (Bw.out.kept hk (.inl (Nat.le_refl _)))
  clear OW
  have OW := PW
  clear PW
  clear Ox
  have Ox := Px
  clear Px
  clear Ba
  have Ba := Ra
  clear Ra
  clear Bw
  have Bw := Rw
  clear Rw
  have Bx := Nx
  clear Nx
  have y7 := Bx.out.lt
  have K7 := Lib.hid (K6.out.trans hk)
  have z7 := hk.size
  clear hk hw K6
  have CN := Lib.hid (implArmed.at_ T p q r _ _ (Ox.out.rdW (by omega)))
  rw [HN.out, HB.out] at CN
  with_reducible refine CN.out.mono ?_
  rintro e w8 ⟨_, rfl, ⟨_, _, rfl, ⟨DAG, dAG, rfl, oa⟩, ⟨DBG, dBG, rfl, ob⟩⟩, hk⟩
  have PW := Lib.hid (OW.out.kept hk (.inl (Nat.le_refl _)))
  have Px := Lib.hid (Ox.out.kept hk (.inl (Nat.le_refl _)))
  have Ra := Lib.hid (Ba.out.kept hk (.inl (Nat.le_refl _)))
  have Rw := Lib.hid (Bw.out.kept hk (.inl (Nat.le_refl _)))
  have Rx := Lib.hid (Bx.out.kept hk (.inl (Nat.le_refl _)))
  clear OW
  have OW := PW
  clear PW
  clear Ox
  have Ox := Px
  clear Px
  clear Ba
  have Ba := Ra
  clear Ra
  clear Bw
  have Bw := Rw
  clear Rw
  clear Bx
  have Bx := Rx
  clear Rx
  have OG : Hid (OwnM w8 w7.heap.size w8.heap.size (.agg #[.slice DAG N.heap.length dAG, .slice DBG N.list.length dBG, .int .i64 N.next]) N) := ⟨_, _, rfl, ⟨DAG, dAG, rfl, oa⟩, ⟨DBG, dBG, rfl, ob⟩⟩
  have K8 := Lib.hid (K7.out.trans hk)
  have z8 := hk.size
  clear hk oa ob K7
  clear CN
  have cw0 := bx0 Bw.out
  have cw1 := bx1 Bw.out
  have cw2 := bx2 Bw.out
  have lw : w4.heap.size < w8.heap.size := by omega
  go_wp2_with fail
  clear cw0 cw1 cw2
  clear lw
  obtain ⟨w9, hw⟩ : ∃ w9, w9 = w8.alloc (.cells #[.slice DAG N.heap.length dAG, .slice DBG N.list.length dBG, .int .i64 N.next] 30) := ⟨_, rfl⟩
  have hk : Kept 0 0 w8 w9 := by rw [hw]; exact Kept.alloc0 _ _
  have Ng : Hid (Blk w9 w8.heap.size 30 #[.slice DAG N.heap.length dAG, .slice DBG N.list.length dBG, .int .i64 N.next]) := by show Blk _ _ _ _; rw [hw]; exact Blk.new _ _ _
  rw [← hw]
  have PW := Lib.hid (OW.out.kept hk (.inl (Nat.le_refl _)))
  have Px := Lib.hid (Ox.out.kept hk (.inl (Nat.le_refl _)))
  have PG := Lib.hid (OG.out.kept hk (.inl (Nat.le_refl _)))
  have Ra := Lib.hid (Ba.out.kept hk (.inl (Nat.le_refl _)))
  have Rw := Lib.hid (Bw.out.kept hk (.inl (Nat.le_refl _)))
  have Rx := Lib.hid (Bx.out.kept hk (.inl (Nat.le_refl _)))
  clear OW
  have OW := PW
  clear PW
  clear Ox
  have Ox := Px
  clear Px
  clear OG
  have OG := PG
  clear PG
  clear Ba
  have Ba := Ra
  clear Ra
  clear Bw
  have Bw := Rw
  clear Rw
  clear Bx
  have Bx := Rx
  clear Rx
  have Bg := Ng
  clear Ng
  have y9 := Bg.out.lt
  have K9 := Lib.hid (K8.out.trans hk)
  have z9 := hk.size
  clear hk hw K8
  have qq : (bb != bb) = false := by simp
  have qe : (bb == bb) = true := by simp
  with_reducible refine (eqM N _ _ _ (OG.out.rdW (by omega)) (OW.out.rdW (by omega))).mono ?_
  rintro e w10 ⟨rfl, hk⟩
  have PW := Lib.hid (OW.out.kept hk (.inl (Nat.le_refl _)))
  have Px := Lib.hid (Ox.out.kept hk (.inl (Nat.le_refl _)))
  have PG := Lib.hid (OG.out.kept hk (.inl (Nat.le_refl _)))
  have Ra := Lib.hid (Ba.out.kept hk (.inl (Nat.le_refl _)))
  have Rw := Lib.hid (Bw.out.kept hk (.inl (Nat.le_refl _)))
  have Rx := Lib.hid (Bx.out.kept hk (.inl (Nat.le_refl _)))
  have Rg := Lib.hid (Bg.out.kept hk (.inl (Nat.le_refl _)))
  clear OW
  have OW := PW
  clear PW
  clear Ox
  have Ox := Px
  clear Px
  clear OG
  have OG := PG
  clear PG
  clear Ba
  have Ba := Ra
  clear Ra
  clear Bw
  have Bw := Rw
  clear Rw
  clear Bx
  have Bx := Rx
  clear Rx
  clear Bg
  have Bg := Rg
  clear Rg
  have K10 := Lib.hid (K9.out.trans hk)
  have z10 := hk.size
  clear hk K9
  go_upto_region 10 with fail
  go_region_held3 (fun w' => w'.cell? ⟨w6.heap.size, 0, none⟩ = some (.slice DAx T.heap.length dAx) ∧ w'.cell? ⟨w6.heap.size, 1, none⟩ = some (.slice DBx T.list.length dBx) ∧ w'.cell? ⟨w6.heap.size, 2, none⟩ = some (.int .i64 T.next) ∧ w'.cell? ⟨w.heap.size, 0, none⟩ = some (.slice A1 T.heap.length q1) ∧ w'.cell? ⟨w.heap.size, 1, none⟩ = some (.slice A2 T.list.length q2) ∧ w'.cell? ⟨w.heap.size, 2, none⟩ = some (.int .i64 T.next))
    (first | with_reducible exact ⟨bx0 Bx.out.drew, bx1 Bx.out.drew, bx2 Bx.out.drew, bx0 Ba.out.drew, bx1 Ba.out.drew, bx2 Ba.out.drew⟩ | with_reducible exact ⟨bx0 Xx, bx1 Xx, bx2 Xx, bx0 Xa, bx1 Xa, bx2 Xa⟩ | with_reducible exact ⟨bx0 Yx, bx1 Yx, bx2 Yx, bx0 Ya, bx1 Ya, bx2 Ya⟩)
    (first | (go_at_call 27; (with_reducible refine (toM T _ w10.drew (HA.out.up (K10.out).drew) Th Tl).mono ?_); rintro e w11 ⟨_, rfl, ⟨_, _, rfl, ⟨DAy, dAy, rfl, oa⟩, ⟨DBy, dBy, rfl, ob⟩⟩, hk⟩; have k1 : Kept 0 0 w10 w11 := (Kept.refl 0 0 w10).drew.trans hk; have Oy : OwnM w11 w10.drew.heap.size w11.heap.size (.agg #[.slice DAy T.heap.length dAy, .slice DBy T.list.length dBy, .int .i64 T.next]) T := ⟨_, _, rfl, ⟨DAy, dAy, rfl, oa⟩, ⟨DBy, dBy, rfl, ob⟩⟩; have Xx := Bx.out.kept k1 (.inl (Nat.le_refl _)); have Xa := Ba.out.kept k1 (.inl (Nat.le_refl _)); have zz := k1.size; clear hk oa ob) | (go_at_call 28; (with_reducible refine (eqM T _ _ w11 ((Ox.out.kept k1 (.inl (Nat.le_refl _))).rdW (by omega)) (Oy.rdW (Nat.le_refl _))).mono ?_); rintro e w12 ⟨rfl, hk⟩; have k2 : Kept 0 0 w10 w12 := k1.trans hk; have Yx := Bx.out.kept k2 (.inl (Nat.le_refl _)); have Ya := Ba.out.kept k2 (.inl (Nat.le_refl _)); have ks := Lib.hid k2; clear hk))
  clear Xx Xa Yx Ya k1 k2 Oy zz
  have PW := Lib.hid (OW.out.kept ks.out (.inl (Nat.le_refl _)))
  have Px := Lib.hid (Ox.out.kept ks.out (.inl (Nat.le_refl _)))
  have PG := Lib.hid (OG.out.kept ks.out (.inl (Nat.le_refl _)))
  have Ra := Lib.hid (Ba.out.kept ks.out (.inl (Nat.le_refl _)))
  have Rw := Lib.hid (Bw.out.kept ks.out (.inl (Nat.le_refl _)))
  have Rx := Lib.hid (Bx.out.kept ks.out (.inl (Nat.le_refl _)))
  have Rg := Lib.hid (Bg.out.kept ks.out (.inl (Nat.le_refl _)))
  clear OW
  have OW := PW
  clear PW
  clear Ox
  have Ox := Px
  clear Px
  clear OG
  have OG := PG
  clear PG
  clear Ba
  have Ba := Ra
  clear Ra
  clear Bw
  have Bw := Rw
  clear Rw
  clear Bx
  have Bx := Rx
  clear Rx
  clear Bg
  have Bg := Rg
  clear Rg
  have K12 := Lib.hid ((K10.out).trans ks.out)
  have z12 := ks.out.size
  clear ks K10
  obtain ⟨mT, hmT⟩ : ∃ mT, mT = markN 1 T := ⟨_, rfl⟩
  obtain ⟨mN, hmN⟩ : ∃ mN, mN = markN 1 N := ⟨_, rfl⟩
  have pT : 0 ≤ mT := by rw [hmT]; unfold markN; omega
  have pN : 0 ≤ mN := by rw [hmN]; unfold markN; omega
  have HmT := Lib.hid hmT.symm
  have HmN := Lib.hid hmN.symm
  clear hmT hmN
  have cx0 := bx0 Bx.out
  have cx1 := bx1 Bx.out
  have cx2 := bx2 Bx.out
  go_wp2_with fail
  clear cx0 cx1 cx2
  with_reducible refine (markM 1 T _ w5.heap.size w6.heap.size _ Ox.out (by omega) (by omega) Th Tl (by omega)).mono ?_
  rintro e w13 ⟨rfl, ho, hk⟩
  have PW := Lib.hid (OW.out.kept hk (by omega))
  have PG := Lib.hid (OG.out.kept hk (by omega))
  have Ra := Lib.hid (Ba.out.kept hk (by omega))
  have Rw := Lib.hid (Bw.out.kept hk (by omega))
  have Rx := Lib.hid (Bx.out.kept hk (by omega))
  have Rg := Lib.hid (Bg.out.kept hk (by omega))
  clear OW
  have OW := PW
  clear PW
  clear OG
  have OG := PG
  clear PG
  clear Ba
  have Ba := Ra
  clear Ra
  clear Bw
  have Bw := Rw
  clear Rw
  clear Bx
  have Bx := Rx
  clear Rx
  clear Bg
  have Bg := Rg
  clear Rg
  clear Ox
  have Ox := Lib.hid ho
  have K13 := Lib.hid (K12.out.trans2 hk (.inr (by omega)))
  have z13 := hk.size
  clear hk ho K12
  rw [HmT.out]
  have cg0 := bx0 Bg.out
  have cg1 := bx1 Bg.out
  have cg2 := bx2 Bg.out
  have cw0 := bx0 Bw.out
  have cw1 := bx1 Bw.out
  have cw2 := bx2 Bw.out
  go_wp2_with fail
  clear cg0 cg1 cg2 cw0 cw1 cw2
  with_reducible refine (eqM N _ _ _ (OG.out.rdW (by omega)) (OW.out.rdW (by omega))).mono ?_
  rintro e w14 ⟨rfl, hk⟩
  have PW := Lib.hid (OW.out.kept hk (.inl (Nat.le_refl _)))
  have Px := Lib.hid (Ox.out.kept hk (.inl (Nat.le_refl _)))
  have PG := Lib.hid (OG.out.kept hk (.inl (Nat.le_refl _)))
  have Ra := Lib.hid (Ba.out.kept hk (.inl (Nat.le_refl _)))
  have Rw := Lib.hid (Bw.out.kept hk (.inl (Nat.le_refl _)))
  have Rx := Lib.hid (Bx.out.kept hk (.inl (Nat.le_refl _)))
  have Rg := Lib.hid (Bg.out.kept hk (.inl (Nat.le_refl _)))
  clear OW
  have OW := PW
  clear PW
  clear Ox
  have Ox := Px
  clear Px
  clear OG
  have OG := PG
  clear PG
  clear Ba
  have Ba := Ra
  clear Ra
  clear Bw
  have Bw := Rw
  clear Rw
  clear Bx
  have Bx := Rx
  clear Rx
  clear Bg
  have Bg := Rg
  clear Rg
  have K14 := Lib.hid (K13.out.trans hk)
  have z14 := hk.size
  clear hk K13
  have cg0 := bx0 Bg.out
  have cg1 := bx1 Bg.out
  have cg2 := bx2 Bg.out
  go_wp2_with fail
  clear cg0 cg1 cg2
  with_reducible refine (markM 1 N _ w7.heap.size w8.heap.size _ OG.out (by omega) (by omega) Nh Nl (by omega)).mono ?_
  rintro e w15 ⟨rfl, ho, hk⟩
  have PW := Lib.hid (OW.out.kept hk (by omega))
  have Px := Lib.hid (Ox.out.kept hk (by omega))
  have Ra := Lib.hid (Ba.out.kept hk (by omega))
  have Rw := Lib.hid (Bw.out.kept hk (by omega))
  have Rx := Lib.hid (Bx.out.kept hk (by omega))
  have Rg := Lib.hid (Bg.out.kept hk (by omega))
  clear OW
  have OW := PW
  clear PW
  clear Ox
  have Ox := Px
  clear Px
  clear Ba
  have Ba := Ra
  clear Ra
  clear Bw
  have Bw := Rw
  clear Rw
  clear Bx
  have Bx := Rx
  clear Rx
  clear Bg
  have Bg := Rg
  clear Rg
  clear OG
  have OG := Lib.hid ho
  have K15 := Lib.hid (K14.out.trans2 hk (.inr (by omega)))
  have z15 := hk.size
  clear hk ho K14
  rw [HmN.out]
  have cg0 := bx0 Bg.out
  have cg1 := bx1 Bg.out
  have cg2 := bx2 Bg.out
  go_wp2_with fail
  clear cg0 cg1 cg2
  with_reducible refine (heldM 1 N _ _ w8.heap.size (by omega) OG.out.rd (by omega) (by omega) Nh Nl).mono ?_
  rintro e w16 ⟨rfl, hk⟩
  have PW := Lib.hid (OW.out.kept hk (.inl (Nat.le_refl _)))
  have Px := Lib.hid (Ox.out.kept hk (.inl (Nat.le_refl _)))
  have PG := Lib.hid (OG.out.kept hk (.inl (Nat.le_refl _)))
  have Ra := Lib.hid (Ba.out.kept hk (.inl (Nat.le_refl _)))
  have Rw := Lib.hid (Bw.out.kept hk (.inl (Nat.le_refl _)))
  have Rx := Lib.hid (Bx.out.kept hk (.inl (Nat.le_refl _)))
  have Rg := Lib.hid (Bg.out.kept hk (.inl (Nat.le_refl _)))
  clear OW
  have OW := PW
  clear PW
  clear Ox
  have Ox := Px
  clear Px
  clear OG
  have OG := PG
  clear PG
  clear Ba
  have Ba := Ra
  clear Ra
  clear Bw
  have Bw := Rw
  clear Rw
  clear Bx
  have Bx := Rx
  clear Rx
  clear Bg
  have Bg := Rg
  clear Rg
  have K16 := Lib.hid (K15.out.trans hk)
  have z16 := hk.size
  clear hk K15
  rw [HmN.out]
  have qm : (mN != mN) = false := by simp
  clear Ox
  have ca0 := bx0 Ba.out
  have ca1 := bx1 Ba.out
  have ca2 := bx2 Ba.out
  go_wp2_with fail
  clear ca0 ca1 ca2
  with_reducible refine (toM T _ _ (HA.out.up K16.out) Th Tl).mono ?_
  rintro e w17 ⟨_, rfl, ⟨_, _, rfl, ⟨DAt, dAt, rfl, oa⟩, ⟨DBt, dBt, rfl, ob⟩⟩, hk⟩
  have PW := Lib.hid (OW.out.kept hk (.inl (Nat.le_refl _)))
  have PG := Lib.hid (OG.out.kept hk (.inl (Nat.le_refl _)))
  have Ra := Lib.hid (Ba.out.kept hk (.inl (Nat.le_refl _)))
  have Rw := Lib.hid (Bw.out.kept hk (.inl (Nat.le_refl _)))
  have Rx := Lib.hid (Bx.out.kept hk (.inl (Nat.le_refl _)))
  have Rg := Lib.hid (Bg.out.kept hk (.inl (Nat.le_refl _)))
  clear OW
  have OW := PW
  clear PW
  clear OG
  have OG := PG
  clear PG
  clear Ba
  have Ba := Ra
  clear Ra
  clear Bw
  have Bw := Rw
  clear Rw
  clear Bx
  have Bx := Rx
  clear Rx
  clear Bg
  have Bg := Rg
  clear Rg
  have Ot : Hid (OwnM w17 w16.heap.size w17.heap.size (.agg #[.slice DAt T.heap.length dAt, .slice DBt T.list.length dBt, .int .i64 T.next]) T) := ⟨_, _, rfl, ⟨DAt, dAt, rfl, oa⟩, ⟨DBt, dBt, rfl, ob⟩⟩
  have K17 := Lib.hid (K16.out.trans hk)
  have z17 := hk.size
  clear hk oa ob K16
  have CN := Lib.hid (implArmed.at_ T p q r _ _ (Ot.out.rdW (by omega)))
  rw [HN.out, HB.out] at CN
  go_wp2_with fail
  with_reducible refine CN.out.mono ?_
  rintro e w18 ⟨_, rfl, ⟨_, _, rfl, ⟨DAQ, dAQ, rfl, oa⟩, ⟨DBQ, dBQ, rfl, ob⟩⟩, hk⟩
  have PW := Lib.hid (OW.out.kept hk (.inl (Nat.le_refl _)))
  have PG := Lib.hid (OG.out.kept hk (.inl (Nat.le_refl _)))
  have Pt := Lib.hid (Ot.out.kept hk (.inl (Nat.le_refl _)))
  have Ra := Lib.hid (Ba.out.kept hk (.inl (Nat.le_refl _)))
  have Rw := Lib.hid (Bw.out.kept hk (.inl (Nat.le_refl _)))
  have Rx := Lib.hid (Bx.out.kept hk (.inl (Nat.le_refl _)))
  have Rg := Lib.hid (Bg.out.kept hk (.inl (Nat.le_refl _)))
  clear OW
  have OW := PW
  clear PW
  clear OG
  have OG := PG
  clear PG
  clear Ot
  have Ot := Pt
  clear Pt
  clear Ba
  have Ba := Ra
  clear Ra
  clear Bw
  have Bw := Rw
  clear Rw
  clear Bx
  have Bx := Rx
  clear Rx
  clear Bg
  have Bg := Rg
  clear Rg
  have OQ : Hid (OwnM w18 w17.heap.size w18.heap.size (.agg #[.slice DAQ N.heap.length dAQ, .slice DBQ N.list.length dBQ, .int .i64 N.next]) N) := ⟨_, _, rfl, ⟨DAQ, dAQ, rfl, oa⟩, ⟨DBQ, dBQ, rfl, ob⟩⟩
  have K18 := Lib.hid (K17.out.trans hk)
  have z18 := hk.size
  clear hk oa ob K17
  clear CN
  have cw0 := bx0 Bw.out
  have cw1 := bx1 Bw.out
  have cw2 := bx2 Bw.out
  have lw : w4.heap.size < w18.heap.size := by omega
  go_wp2_with fail
  clear cw0 cw1 cw2
  clear lw
  obtain ⟨w19, hw⟩ : ∃ w19, w19 = w18.alloc (.cells #[.slice DAQ N.heap.length dAQ, .slice DBQ N.list.length dBQ, .int .i64 N.next] 30) := ⟨_, rfl⟩
  have hk : Kept 0 0 w18 w19 := by rw [hw]; exact Kept.alloc0 _ _
  have Nq : Hid (Blk w19 w18.heap.size 30 #[.slice DAQ N.heap.length dAQ, .slice DBQ N.list.length dBQ, .int .i64 N.next]) := by show Blk _ _ _ _; rw [hw]; exact Blk.new _ _ _
  rw [← hw]
  have PW := Lib.hid (OW.out.kept hk (.inl (Nat.le_refl _)))
  have PG := Lib.hid (OG.out.kept hk (.inl (Nat.le_refl _)))
  have Pt := Lib.hid (Ot.out.kept hk (.inl (Nat.le_refl _)))
  have PQ := Lib.hid (OQ.out.kept hk (.inl (Nat.le_refl _)))
  have Ra := Lib.hid (Ba.out.kept hk (.inl (Nat.le_refl _)))
  have Rw := Lib.hid (Bw.out.kept hk (.inl (Nat.le_refl _)))
  have Rx := Lib.hid (Bx.out.kept hk (.inl (Nat.le_refl _)))
  have Rg := Lib.hid (Bg.out.kept hk (.inl (Nat.le_refl _)))
  clear OW
  have OW := PW
  clear PW
  clear OG
  have OG := PG
  clear PG
  clear Ot
  have Ot := Pt
  clear Pt
  clear OQ
  have OQ := PQ
  clear PQ
  clear Ba
  have Ba := Ra
  clear Ra
  clear Bw
  have Bw := Rw
  clear Rw
  clear Bx
  have Bx := Rx
  clear Rx
  clear Bg
  have Bg := Rg
  clear Rg
  have Bq := Nq
  clear Nq
  have y19 := Bq.out.lt
  have K19 := Lib.hid (K18.out.trans hk)
  have z19 := hk.size
  clear hk hw K18
  with_reducible refine (eqM N _ _ _ (OQ.out.rdW (by omega)) (OW.out.rdW (by omega))).mono ?_
  rintro e w20 ⟨rfl, hk⟩
  have PW := Lib.hid (OW.out.kept hk (.inl (Nat.le_refl _)))
  have PG := Lib.hid (OG.out.kept hk (.inl (Nat.le_refl _)))
  have Pt := Lib.hid (Ot.out.kept hk (.inl (Nat.le_refl _)))
  have PQ := Lib.hid (OQ.out.kept hk (.inl (Nat.le_refl _)))
  have Ra := Lib.hid (Ba.out.kept hk (.inl (Nat.le_refl _)))
  have Rw := Lib.hid (Bw.out.kept hk (.inl (Nat.le_refl _)))
  have Rx := Lib.hid (Bx.out.kept hk (.inl (Nat.le_refl _)))
  have Rg := Lib.hid (Bg.out.kept hk (.inl (Nat.le_refl _)))
  have Rq := Lib.hid (Bq.out.kept hk (.inl (Nat.le_refl _)))
  clear OW
  have OW := PW
  clear PW
  clear OG
  have OG := PG
  clear PG
  clear Ot
  have Ot := Pt
  clear Pt
  clear OQ
  have OQ := PQ
  clear PQ
  clear Ba
  have Ba := Ra
  clear Ra
  clear Bw
  have Bw := Rw
  clear Rw
  clear Bx
  have Bx := Rx
  clear Rx
  clear Bg
  have Bg := Rg
  clear Rg
  clear Bq
  have Bq := Rq
  clear Rq
  have K20 := Lib.hid (K19.out.trans hk)
  have z20 := hk.size
  clear hk K19
  have cg0 := bx0 Bg.out
  have cg1 := bx1 Bg.out
  have cg2 := bx2 Bg.out
  go_wp2_with fail
  clear cg0 cg1 cg2
  with_reducible refine (heldM 1 N _ _ w8.heap.size (by omega) OG.out.rd (by omega) (by omega) Nh Nl).mono ?_
  rintro e w21 ⟨rfl, hk⟩
  have PW := Lib.hid (OW.out.kept hk (.inl (Nat.le_refl _)))
  have PG := Lib.hid (OG.out.kept hk (.inl (Nat.le_refl _)))
  have Pt := Lib.hid (Ot.out.kept hk (.inl (Nat.le_refl _)))
  have PQ := Lib.hid (OQ.out.kept hk (.inl (Nat.le_refl _)))
  have Ra := Lib.hid (Ba.out.kept hk (.inl (Nat.le_refl _)))
  have Rw := Lib.hid (Bw.out.kept hk (.inl (Nat.le_refl _)))
  have Rx := Lib.hid (Bx.out.kept hk (.inl (Nat.le_refl _)))
  have Rg := Lib.hid (Bg.out.kept hk (.inl (Nat.le_refl _)))
  have Rq := Lib.hid (Bq.out.kept hk (.inl (Nat.le_refl _)))
  clear OW
  have OW := PW
  clear PW
  clear OG
  have OG := PG
  clear PG
  clear Ot
  have Ot := Pt
  clear Pt
  clear OQ
  have OQ := PQ
  clear PQ
  clear Ba
  have Ba := Ra
  clear Ra
  clear Bw
  have Bw := Rw
  clear Rw
  clear Bx
  have Bx := Rx
  clear Rx
  clear Bg
  have Bg := Rg
  clear Rg
  clear Bq
  have Bq := Rq
  clear Rq
  have K21 := Lib.hid (K20.out.trans hk)
  have z21 := hk.size
  clear hk K20
  rw [HmN.out]
  go_wp2_with fail
  go_ret
  exact ⟨rfl, K21.out⟩
set_option maxHeartbeats 400000 in
theorem lawArmed (T : Tms) (p q r : Int) (v : Value) (w : World) (h : RdM w w.heap.size v T) :
    Calls Try.prog 6 #[v, .int .i64 p, .int .i64 q, .int .i64 r] w fun e w' => e = .returned (.bool true) ∧ Kept 0 0 w w' := by
  rcases Nat.lt_or_ge 1048576 (T.heap.length + T.list.length) with hl | hl
  · obtain ⟨hv, lv, rfl, ⟨A1, q1, rfl, s2⟩, ⟨A2, q2, rfl, s3⟩⟩ := h
    have HA : Hid (RdM w w.heap.size (.agg #[.slice A1 T.heap.length q1, .slice A2 T.list.length q2, .int .i64 T.next]) T) := ⟨_, _, rfl, ⟨A1, q1, rfl, s2⟩, ⟨A2, q2, rfl, s3⟩⟩
    obtain ⟨W, hW⟩ : ∃ W, W = w.alloc (.cells #[.slice A1 T.heap.length q1, .slice A2 T.list.length q2, .int .i64 T.next] 50) := ⟨_, rfl⟩
    have KW : Hid (Kept 0 0 w W) := by show Kept _ _ _ _; rw [hW]; exact Kept.alloc0 _ _
    have CS := Lib.hid (szM_neg T _ 1048576 W _ (HA.out.up KW.out) (by omega) (by omega) (by omega))
    have HW := Lib.hid hW
    clear s2 s3 hW
    go_enter Try.func6, Try.ntmps6
    go_wp2_with fail
    rw [← HW.out]
    with_reducible refine CS.out.mono ?_
    rintro e w1 ⟨rfl, hk⟩
    have K1 := Lib.hid (KW.out.trans hk)
    clear hk CS
    go_wp2
    go_ret
    exact ⟨rfl, K1.out⟩
  · exact lawArmed_small T p q r v w h hl
end Go.Proofs.Ytigikhdandmpmaa
