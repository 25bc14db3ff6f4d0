/- The law of resetting returns true and keeps old memory; condition: its draw returns timers in new memory. -/
import Derived.Test.YtnphjohmkjoefaaRb
import Derived.Test.YtnphjohmkjoefaaLm
import Derived.Test.YtnphjohmkjoefaaDh
namespace Go.Proofs.Ytnphjohmkjoefaa
open Go.RowKit Go.Sort

/-- What is asked of the draw of timers, a Seq and a Due. -/
def DrawsM3 : Prop := ∀ (xs : List Int) (A : Option Addr) (c : Nat) (w : World), Rd (Value.int .u8) w w.heap.size A xs → (∀ x ∈ xs, 0 ≤ x ∧ x ≤ 255) → xs.length ≤ 4096 →
  Calls Try.prog 5 #[.slice A xs.length c] w fun e w' => ∃ u T q d, e = .returned (.tuple #[u, .int .i64 q, .int .i64 d]) ∧ OwnM w' w.heap.size w'.heap.size u T ∧ T.list.length ≤ 1048576 ∧ Kept 0 0 w w'
set_option maxHeartbeats 3200000 in
theorem lawResetC_small (hD : DrawsM3) (xs : List Int) (A : Option Addr) (c : Nat) (w : World) (h : Rd (Value.int .u8) w w.heap.size A xs) (hx : ∀ x ∈ xs, 0 ≤ x ∧ x ≤ 255) (hl : xs.length ≤ 4096) :
    Calls Try.prog 3 #[.slice A xs.length c] w fun e w' => e = .returned (.bool true) ∧ Kept 0 0 w w' := by
  have HX := Lib.hid h
  have HD := Lib.hid (hD xs A c w h hx hl)
  have hm := h.1
  have hbig : decide (4096 < xs.length) = false := by simp; omega
  clear h hx hD
  go_enter Try.func3, Try.ntmps3
  go_wp2_with fail
  with_reducible refine (big_any _ _ _ _ hm).mono ?_
  rintro e w' ⟨rfl, rfl⟩
  rw [hbig]
  clear hbig hm
  go_wp2_with fail
  with_reducible refine HD.out.mono ?_
  rintro e w1 ⟨_, T, q, d, rfl, ⟨_, _, rfl, ⟨DAd, dAd, rfl, oa⟩, ⟨DBd, dBd, rfl, ob⟩⟩, tl, hk⟩
  have Od : Hid (OwnM w1 w.heap.size w1.heap.size (.agg #[.slice DAd T.heap.length dAd, .slice DBd T.list.length dBd, .int .i64 T.next]) T) := ⟨_, _, rfl, ⟨DAd, dAd, rfl, oa⟩, ⟨DBd, dBd, rfl, ob⟩⟩
  have K1 := Lib.hid hk
  have z1 := hk.size
  clear hk oa ob HD
  have PL := Lib.hid (reset_law T q d)
  obtain ⟨N1, hN1⟩ : ∃ N1, N1 = resetL T q d := ⟨_, rfl⟩
  obtain ⟨b1, hb1⟩ : ∃ b1, b1 = resetB T q d := ⟨_, rfl⟩
  rw [← hN1, ← hb1] at PL
  have HN1 := Lib.hid hN1.symm
  have Hb1 := Lib.hid hb1.symm
  clear hN1 hb1
  obtain ⟨N2, hN2⟩ : ∃ N2, N2 = forgetL N1 q := ⟨_, rfl⟩
  obtain ⟨b2, hb2⟩ : ∃ b2, b2 = forgetB N1 q := ⟨_, rfl⟩
  obtain ⟨N3, hN3⟩ : ∃ N3, N3 = forgetL T q := ⟨_, rfl⟩
  rw [← hN2, ← hb2] at PL
  have Hb3 : Hid (forgetB T q = b2) := PL.out.1.symm
  rw [Hb3.out] at PL
  have HN2 := Lib.hid hN2.symm
  have Hb2 := Lib.hid hb2.symm
  have HN3 := Lib.hid hN3.symm
  clear hN2 hb2 hN3
  have q1 : (b1 != b1) = false := by simp
  have q2 : (b2 != b2) = false := by simp
  go_wp2_with fail
  obtain ⟨w2, hw⟩ : ∃ w2, w2 = w1.alloc (.cells #[.slice DAd T.heap.length dAd, .slice DBd T.list.length dBd, .int .i64 T.next] 27) := ⟨_, rfl⟩
  have hk : Kept 0 0 w1 w2 := by rw [hw]; exact Kept.alloc0 _ _
  have Nt : Hid (Blk w2 w1.heap.size 27 #[.slice DAd T.heap.length dAd, .slice DBd T.list.length dBd, .int .i64 T.next]) := by show Blk _ _ _ _; rw [hw]; exact Blk.new _ _ _
  rw [← hw]
  have Pd := Lib.hid (Od.out.kept hk (.inl (Nat.le_refl _)))
  clear Od
  have Od := Pd
  clear Pd
  have Bt := Nt
  clear Nt
  have y2 := Bt.out.lt
  have K2 := Lib.hid (K1.out.trans hk)
  have z2 := hk.size
  clear hk hw K1
  have CN := Lib.hid (implReset.at_ T q d _ _ (Od.out.rdW (by omega)))
  rw [HN1.out, Hb1.out] at CN
  with_reducible refine CN.out.mono ?_
  rintro e w3 ⟨_, rfl, ⟨_, _, rfl, ⟨DAX, dAX, rfl, oa⟩, ⟨DBX, dBX, rfl, ob⟩⟩, hk⟩
  have Pd := Lib.hid (Od.out.kept hk (.inl (Nat.le_refl _)))
  have Rt := Lib.hid (Bt.out.kept hk (.inl (Nat.le_refl _)))
  clear Od
  have Od := Pd
  clear Pd
  clear Bt
  have Bt := Rt
  clear Rt
  have OX : Hid (OwnM w3 w2.heap.size w3.heap.size (.agg #[.slice DAX N1.heap.length dAX, .slice DBX N1.list.length dBX, .int .i64 N1.next]) N1) := ⟨_, _, rfl, ⟨DAX, dAX, rfl, oa⟩, ⟨DBX, dBX, rfl, ob⟩⟩
  have K3 := Lib.hid (K2.out.trans hk)
  have z3 := hk.size
  clear hk oa ob K2
  clear CN
  have ct0 := bx0 Bt.out
  have ct1 := bx1 Bt.out
  have ct2 := bx2 Bt.out
  have lt : w1.heap.size < w3.heap.size := by omega
  go_wp2_with fail
  clear ct0 ct1 ct2
  clear lt
  obtain ⟨w4, hw⟩ : ∃ w4, w4 = w3.alloc (.cells #[.slice DAX N1.heap.length dAX, .slice DBX N1.list.length dBX, .int .i64 N1.next] 27) := ⟨_, rfl⟩
  have hk : Kept 0 0 w3 w4 := by rw [hw]; exact Kept.alloc0 _ _
  have Nx : Hid (Blk w4 w3.heap.size 27 #[.slice DAX N1.heap.length dAX, .slice DBX N1.list.length dBX, .int .i64 N1.next]) := by show Blk _ _ _ _; rw [hw]; exact Blk.new _ _ _
  rw [← hw]
  have Pd := Lib.hid (Od.out.kept hk (.inl (Nat.le_refl _)))
  have PX := Lib.hid (OX.out.kept hk (.inl (Nat.le_refl _)))
  have Rt := Lib.hid (Bt.out.kept hk (.inl (Nat.le_refl _)))
  clear Od
  have Od := Pd
  clear Pd
  clear OX
  have OX := PX
  clear PX
  clear Bt
  have Bt := Rt
  clear Rt
  have Bx := Nx
  clear Nx
  have y4 := Bx.out.lt
  have K4 := Lib.hid (K3.out.trans hk)
  have z4 := hk.size
  clear hk hw K3
  have CN := Lib.hid (reset4_any.at_ T q d _ _ (Od.out.rdW (by omega)))
  rw [HN1.out, Hb1.out] at CN
  with_reducible refine CN.out.mono ?_
  rintro e w5 ⟨_, rfl, ⟨_, _, rfl, ⟨DAS, dAS, rfl, oa⟩, ⟨DBS, dBS, rfl, ob⟩⟩, hk⟩
  have Pd := Lib.hid (Od.out.kept hk (.inl (Nat.le_refl _)))
  have PX := Lib.hid (OX.out.kept hk (.inl (Nat.le_refl _)))
  have Rt := Lib.hid (Bt.out.kept hk (.inl (Nat.le_refl _)))
  have Rx := Lib.hid (Bx.out.kept hk (.inl (Nat.le_refl _)))
  clear Od
  have Od := Pd
  clear Pd
  clear OX
  have OX := PX
  clear PX
  clear Bt
  have Bt := Rt
  clear Rt
  clear Bx
  have Bx := Rx
  clear Rx
  have OS : Hid (OwnM w5 w4.heap.size w5.heap.size (.agg #[.slice DAS N1.heap.length dAS, .slice DBS N1.list.length dBS, .int .i64 N1.next]) N1) := ⟨_, _, rfl, ⟨DAS, dAS, rfl, oa⟩, ⟨DBS, dBS, rfl, ob⟩⟩
  have K5 := Lib.hid (K4.out.trans hk)
  have z5 := hk.size
  clear hk oa ob K4
  clear CN
  have cx0 := bx0 Bx.out
  have cx1 := bx1 Bx.out
  have cx2 := bx2 Bx.out
  have lx : w3.heap.size < w5.heap.size := by omega
  go_wp2_with fail
  clear cx0 cx1 cx2
  clear lx
  obtain ⟨w6, hw⟩ : ∃ w6, w6 = w5.alloc (.cells #[.slice DAS N1.heap.length dAS, .slice DBS N1.list.length dBS, .int .i64 N1.next] 27) := ⟨_, rfl⟩
  have hk : Kept 0 0 w5 w6 := by rw [hw]; exact Kept.alloc0 _ _
  have Ns : Hid (Blk w6 w5.heap.size 27 #[.slice DAS N1.heap.length dAS, .slice DBS N1.list.length dBS, .int .i64 N1.next]) := by show Blk _ _ _ _; rw [hw]; exact Blk.new _ _ _
  rw [← hw]
  have Pd := Lib.hid (Od.out.kept hk (.inl (Nat.le_refl _)))
  have PX := Lib.hid (OX.out.kept hk (.inl (Nat.le_refl _)))
  have PS := Lib.hid (OS.out.kept hk (.inl (Nat.le_refl _)))
  have Rt := Lib.hid (Bt.out.kept hk (.inl (Nat.le_refl _)))
  have Rx := Lib.hid (Bx.out.kept hk (.inl (Nat.le_refl _)))
  clear Od
  have Od := Pd
  clear Pd
  clear OX
  have OX := PX
  clear PX
  clear OS
  have OS := PS
  clear PS
  clear Bt
  have Bt := Rt
  clear Rt
  clear Bx
  have Bx := Rx
  clear Rx
  have Bs := Ns
  clear Ns
  have y6 := Bs.out.lt
  have K6 := Lib.hid (K5.out.trans hk)
  have z6 := hk.size
  clear hk hw K5
  have CN := Lib.hid (implForgotten.at_ N1 q _ _ (OX.out.rdW (by omega)))
  rw [HN2.out, Hb2.out] at CN
  with_reducible refine CN.out.mono ?_
  rintro e w7 ⟨_, rfl, ⟨_, _, rfl, ⟨DAY, dAY, rfl, oa⟩, ⟨DBY, dBY, rfl, ob⟩⟩, hk⟩
  have Pd := Lib.hid (Od.out.kept hk (.inl (Nat.le_refl _)))
  have PX := Lib.hid (OX.out.kept hk (.inl (Nat.le_refl _)))
  have PS := Lib.hid (OS.out.kept hk (.inl (Nat.le_refl _)))
  have Rt := Lib.hid (Bt.out.kept hk (.inl (Nat.le_refl _)))
  have Rx := Lib.hid (Bx.out.kept hk (.inl (Nat.le_refl _)))
  have Rs := Lib.hid (Bs.out.kept hk (.inl (Nat.le_refl _)))
  clear Od
  have Od := Pd
  clear Pd
  clear OX
  have OX := PX
  clear PX
  clear OS
  have OS := PS
  clear PS
  clear Bt
  have Bt := Rt
  clear Rt
  clear Bx
  have Bx := Rx
  clear Rx
  clear Bs
  have Bs := Rs
  clear Rs
  have OY : Hid (OwnM w7 w6.heap.size w7.heap.size (.agg #[.slice DAY N2.heap.length dAY, .slice DBY N2.list.length dBY, .int .i64 N2.next]) N2) := ⟨_, _, rfl, ⟨DAY, dAY, rfl, oa⟩, ⟨DBY, dBY, rfl, ob⟩⟩
  have K7 := Lib.hid (K6.out.trans hk)
  have z7 := hk.size
  clear hk oa ob K6
  clear CN
  have ct0 := bx0 Bt.out
  have ct1 := bx1 Bt.out
  have ct2 := bx2 Bt.out
  have lt : w1.heap.size < w7.heap.size := by omega
  go_wp2_with fail
  clear ct0 ct1 ct2
  clear lt
  obtain ⟨w8, hw⟩ : ∃ w8, w8 = w7.alloc (.cells #[.slice DAY N2.heap.length dAY, .slice DBY N2.list.length dBY, .int .i64 N2.next] 27) := ⟨_, rfl⟩
  have hk : Kept 0 0 w7 w8 := by rw [hw]; exact Kept.alloc0 _ _
  have Ny : Hid (Blk w8 w7.heap.size 27 #[.slice DAY N2.heap.length dAY, .slice DBY N2.list.length dBY, .int .i64 N2.next]) := by show Blk _ _ _ _; rw [hw]; exact Blk.new _ _ _
  rw [← hw]
  have Pd := Lib.hid (Od.out.kept hk (.inl (Nat.le_refl _)))
  have PX := Lib.hid (OX.out.kept hk (.inl (Nat.le_refl _)))
  have PS := Lib.hid (OS.out.kept hk (.inl (Nat.le_refl _)))
  have PY := Lib.hid (OY.out.kept hk (.inl (Nat.le_refl _)))
  have Rt := Lib.hid (Bt.out.kept hk (.inl (Nat.le_refl _)))
  have Rx := Lib.hid (Bx.out.kept hk (.inl (Nat.le_refl _)))
  have Rs := Lib.hid (Bs.out.kept hk (.inl (Nat.le_refl _)))
  clear Od
  have Od := Pd
  clear Pd
  clear OX
  have OX := PX
  clear PX
  clear OS
  have OS := PS
  clear PS
  clear OY
  have OY := PY
  clear PY
  clear Bt
  have Bt := Rt
  clear Rt
  clear Bx
  have Bx := Rx
  clear Rx
  clear Bs
  have Bs := Rs
  clear Rs
  have By := Ny
  clear Ny
  have y8 := By.out.lt
  have K8 := Lib.hid (K7.out.trans hk)
  have z8 := hk.size
  clear hk hw K7
  have CN := Lib.hid (forget4_any.at_ T q _ _ (Od.out.rdW (by omega)))
  rw [HN3.out, Hb3.out] at CN
  with_reducible refine CN.out.mono ?_
  rintro e w9 ⟨_, rfl, ⟨_, _, rfl, ⟨DAZ, dAZ, rfl, oa⟩, ⟨DBZ, dBZ, rfl, ob⟩⟩, hk⟩
  have Pd := Lib.hid (Od.out.kept hk (.inl (Nat.le_refl _)))
  have PX := Lib.hid (OX.out.kept hk (.inl (Nat.le_refl _)))
  have PS := Lib.hid (OS.out.kept hk (.inl (Nat.le_refl _)))
  have PY := Lib.hid (OY.out.kept hk (.inl (Nat.le_refl _)))
  have Rt := Lib.hid (Bt.out.kept hk (.inl (Nat.le_refl _)))
  have Rx := Lib.hid (Bx.out.kept hk (.inl (Nat.le_refl _)))
  have Rs := Lib.hid (Bs.out.kept hk (.inl (Nat.le_refl _)))
  have Ry := Lib.hid (By.out.kept hk (.inl (Nat.le_refl _)))
  clear Od
  have Od := Pd
  clear Pd
  clear OX
  have OX := PX
  clear PX
  clear OS
  have OS := PS
  clear PS
  clear OY
  have OY := PY
  clear PY
  clear Bt
  have Bt := Rt
  clear Rt
  clear Bx
  have Bx := Rx
  clear Rx
  clear Bs
  have Bs := Rs
  clear Rs
  clear By
  have By := Ry
  clear Ry
  have OZ : Hid (OwnM w9 w8.heap.size w9.heap.size (.agg #[.slice DAZ N3.heap.length dAZ, .slice DBZ N3.list.length dBZ, .int .i64 N3.next]) N3) := ⟨_, _, rfl, ⟨DAZ, dAZ, rfl, oa⟩, ⟨DBZ, dBZ, rfl, ob⟩⟩
  have K9 := Lib.hid (K8.out.trans hk)
  have z9 := hk.size
  clear hk oa ob K8
  clear CN
  cases b2
  · have B1 : Hid (b1 = false) := PL.out.2.1 rfl
    have qb := B1.out
    subst qb
    go_wp2_with fail
    obtain ⟨w10, hw⟩ : ∃ w10, w10 = w9.alloc (.cells #[.slice DAZ N3.heap.length dAZ, .slice DBZ N3.list.length dBZ, .int .i64 N3.next] 27) := ⟨_, rfl⟩
    have hk : Kept 0 0 w9 w10 := by rw [hw]; exact Kept.alloc0 _ _
    have Nz : Hid (Blk w10 w9.heap.size 27 #[.slice DAZ N3.heap.length dAZ, .slice DBZ N3.list.length dBZ, .int .i64 N3.next]) := by show Blk _ _ _ _; rw [hw]; exact Blk.new _ _ _
    rw [← hw]
    have Pd := Lib.hid (Od.out.kept hk (.inl (Nat.le_refl _)))
    have PX := Lib.hid (OX.out.kept hk (.inl (Nat.le_refl _)))
    have PS := Lib.hid (OS.out.kept hk (.inl (Nat.le_refl _)))
    have PY := Lib.hid (OY.out.kept hk (.inl (Nat.le_refl _)))
    have PZ := Lib.hid (OZ.out.kept hk (.inl (Nat.le_refl _)))
    have Rt := Lib.hid (Bt.out.kept hk (.inl (Nat.le_refl _)))
    have Rx := Lib.hid (Bx.out.kept hk (.inl (Nat.le_refl _)))
    have Rs := Lib.hid (Bs.out.kept hk (.inl (Nat.le_refl _)))
    have Ry := Lib.hid (By.out.kept hk (.inl (Nat.le_refl _)))
    clear Od
    have Od := Pd
    clear Pd
    clear OX
    have OX := PX
    clear PX
    clear OS
    have OS := PS
    clear PS
    clear OY
    have OY := PY
    clear PY
    clear OZ
    have OZ := PZ
    clear PZ
    clear Bt
    have Bt := Rt
    clear Rt
    clear Bx
    have Bx := Rx
    clear Rx
    clear Bs
    have Bs := Rs
    clear Rs
    clear By
    have By := Ry
    clear Ry
    have Bz := Nz
    clear Nz
    have y10 := Bz.out.lt
    have K10 := Lib.hid (K9.out.trans hk)
    have z10 := hk.size
    clear hk hw K9
    go_ret
    exact ⟨rfl, K10.out⟩
  · obtain ⟨o1, o2, ln, nd⟩ := PL.out.2.2 rfl
    have O1 := Lib.hid o1
    have O2 := Lib.hid o2
    have LN := Lib.hid ln
    have ND := Lib.hid nd
    clear o1 o2 ln nd
    have cx0 := bx0 Bx.out
    have cx1 := bx1 Bx.out
    have cx2 := bx2 Bx.out
    have lx : w3.heap.size < w9.heap.size := by omega
    go_wp2_with fail
    clear cx0 cx1 cx2
    clear lx
    obtain ⟨w10, hw⟩ : ∃ w10, w10 = w9.alloc (.cells #[.slice DAZ N3.heap.length dAZ, .slice DBZ N3.list.length dBZ, .int .i64 N3.next] 27) := ⟨_, rfl⟩
    have hk : Kept 0 0 w9 w10 := by rw [hw]; exact Kept.alloc0 _ _
    have Nz : Hid (Blk w10 w9.heap.size 27 #[.slice DAZ N3.heap.length dAZ, .slice DBZ N3.list.length dBZ, .int .i64 N3.next]) := by show Blk _ _ _ _; rw [hw]; exact Blk.new _ _ _
    rw [← hw]
    have Pd := Lib.hid (Od.out.kept hk (.inl (Nat.le_refl _)))
    have PX := Lib.hid (OX.out.kept hk (.inl (Nat.le_refl _)))
    have PS := Lib.hid (OS.out.kept hk (.inl (Nat.le_refl _)))
    have PY := Lib.hid (OY.out.kept hk (.inl (Nat.le_refl _)))
    have PZ := Lib.hid (OZ.out.kept hk (.inl (Nat.le_refl _)))
    have Rt := Lib.hid (Bt.out.kept hk (.inl (Nat.le_refl _)))
    have Rx := Lib.hid (Bx.out.kept hk (.inl (Nat.le_refl _)))
    have Rs := Lib.hid (Bs.out.kept hk (.inl (Nat.le_refl _)))
    have Ry := Lib.hid (By.out.kept hk (.inl (Nat.le_refl _)))
    clear Od
    have Od := Pd
    clear Pd
    clear OX
    have OX := PX
    clear PX
    clear OS
    have OS := PS
    clear PS
    clear OY
    have OY := PY
    clear PY
    clear OZ
    have OZ := PZ
    clear PZ
    clear Bt
    have Bt := Rt
    clear Rt
    clear Bx
    have Bx := Rx
    clear Rx
    clear Bs
    have Bs := Rs
    clear Rs
    clear By
    have By := Ry
    clear Ry
    have Bz := Nz
    clear Nz
    have y10 := Bz.out.lt
    have K10 := Lib.hid (K9.out.trans hk)
    have z10 := hk.size
    clear hk hw K9
    have CN := Lib.hid (implTimersOk N1 _ _ (OX.out.rdW (by omega)))
    rw [O1.out] at CN
    with_reducible refine CN.out.mono ?_
    rintro e w11 ⟨rfl, hk⟩
    have Pd := Lib.hid (Od.out.kept hk (.inl (Nat.le_refl _)))
    have PX := Lib.hid (OX.out.kept hk (.inl (Nat.le_refl _)))
    have PS := Lib.hid (OS.out.kept hk (.inl (Nat.le_refl _)))
    have PY := Lib.hid (OY.out.kept hk (.inl (Nat.le_refl _)))
    have PZ := Lib.hid (OZ.out.kept hk (.inl (Nat.le_refl _)))
    have Rt := Lib.hid (Bt.out.kept hk (.inl (Nat.le_refl _)))
    have Rx := Lib.hid (Bx.out.kept hk (.inl (Nat.le_refl _)))
    have Rs := Lib.hid (Bs.out.kept hk (.inl (Nat.le_refl _)))
    have Ry := Lib.hid (By.out.kept hk (.inl (Nat.le_refl _)))
    have Rz := Lib.hid (Bz.out.kept hk (.inl (Nat.le_refl _)))
    clear Od
    have Od := Pd
    clear Pd
    clear OX
    have OX := PX
    clear PX
    clear OS
    have OS := PS
    clear PS
    clear OY
    have OY := PY
    clear PY
    clear OZ
    have OZ := PZ
    clear PZ
    clear Bt
    have Bt := Rt
    clear Rt
    clear Bx
    have Bx := Rx
    clear Rx
    clear Bs
    have Bs := Rs
    clear Rs
    clear By
    have By := Ry
    clear Ry
    clear Bz
    have Bz := Rz
    clear Rz
    have K11 := Lib.hid (K10.out.trans hk)
    have z11 := hk.size
    clear hk K10
    clear CN
    have cy0 := bx0 By.out
    have cy1 := bx1 By.out
    have cy2 := bx2 By.out
    go_wp2_with fail
    clear cy0 cy1 cy2
    have CN := Lib.hid (implTimersOk N2 _ _ (OY.out.rdW (by omega)))
    rw [O2.out] at CN
    with_reducible refine CN.out.mono ?_
    rintro e w12 ⟨rfl, hk⟩
    have Pd := Lib.hid (Od.out.kept hk (.inl (Nat.le_refl _)))
    have PX := Lib.hid (OX.out.kept hk (.inl (Nat.le_refl _)))
    have PS := Lib.hid (OS.out.kept hk (.inl (Nat.le_refl _)))
    have PY := Lib.hid (OY.out.kept hk (.inl (Nat.le_refl _)))
    have PZ := Lib.hid (OZ.out.kept hk (.inl (Nat.le_refl _)))
    have Rt := Lib.hid (Bt.out.kept hk (.inl (Nat.le_refl _)))
    have Rx := Lib.hid (Bx.out.kept hk (.inl (Nat.le_refl _)))
    have Rs := Lib.hid (Bs.out.kept hk (.inl (Nat.le_refl _)))
    have Ry := Lib.hid (By.out.kept hk (.inl (Nat.le_refl _)))
    have Rz := Lib.hid (Bz.out.kept hk (.inl (Nat.le_refl _)))
    clear Od
    have Od := Pd
    clear Pd
    clear OX
    have OX := PX
    clear PX
    clear OS
    have OS := PS
    clear PS
    clear OY
    have OY := PY
    clear PY
    clear OZ
    have OZ := PZ
    clear PZ
    clear Bt
    have Bt := Rt
    clear Rt
    clear Bx
    have Bx := Rx
    clear Rx
    clear Bs
    have Bs := Rs
    clear Rs
    clear By
    have By := Ry
    clear Ry
    clear Bz
    have Bz := Rz
    clear Rz
    have K12 := Lib.hid (K11.out.trans hk)
    have z12 := hk.size
    clear hk K11
    clear CN
    have le : ((N2.list.length : Int) == (T.list.length : Int) - 1) = true := by have := LN.out; simp; omega
    have lw : IntKind.i64.wrap ((T.list.length : Int) - 1) = (T.list.length : Int) - 1 := IntWalk.i64_in _ (by omega)
    have cx0 := bx0 Bx.out
    have cx1 := bx1 Bx.out
    have cx2 := bx2 Bx.out
    have cy0 := bx0 By.out
    have cy1 := bx1 By.out
    have cy2 := bx2 By.out
    have ct0 := bx0 Bt.out
    have ct1 := bx1 Bt.out
    have ct2 := bx2 Bt.out
    go_wp2_with fail
    clear cx0 cx1 cx2 cy0 cy1 cy2 ct0 ct1 ct2
    with_reducible refine (implNextDue N1 _ _ (OX.out.rdW (by omega))).mono ?_
    rintro e w13 ⟨rfl, hk⟩
    have Pd := Lib.hid (Od.out.kept hk (.inl (Nat.le_refl _)))
    have PX := Lib.hid (OX.out.kept hk (.inl (Nat.le_refl _)))
    have PS := Lib.hid (OS.out.kept hk (.inl (Nat.le_refl _)))
    have PY := Lib.hid (OY.out.kept hk (.inl (Nat.le_refl _)))
    have PZ := Lib.hid (OZ.out.kept hk (.inl (Nat.le_refl _)))
    have Rt := Lib.hid (Bt.out.kept hk (.inl (Nat.le_refl _)))
    have Rx := Lib.hid (Bx.out.kept hk (.inl (Nat.le_refl _)))
    have Rs := Lib.hid (Bs.out.kept hk (.inl (Nat.le_refl _)))
    have Ry := Lib.hid (By.out.kept hk (.inl (Nat.le_refl _)))
    have Rz := Lib.hid (Bz.out.kept hk (.inl (Nat.le_refl _)))
    clear Od
    have Od := Pd
    clear Pd
    clear OX
    have OX := PX
    clear PX
    clear OS
    have OS := PS
    clear PS
    clear OY
    have OY := PY
    clear PY
    clear OZ
    have OZ := PZ
    clear PZ
    clear Bt
    have Bt := Rt
    clear Rt
    clear Bx
    have Bx := Rx
    clear Rx
    clear Bs
    have Bs := Rs
    clear Rs
    clear By
    have By := Ry
    clear Ry
    clear Bz
    have Bz := Rz
    clear Rz
    have K13 := Lib.hid (K12.out.trans hk)
    have z13 := hk.size
    clear hk K12
    have nd := ND.out
    go_wp2_with fail
    go_ret
    exact ⟨rfl, K13.out⟩
end Go.Proofs.Ytnphjohmkjoefaa
