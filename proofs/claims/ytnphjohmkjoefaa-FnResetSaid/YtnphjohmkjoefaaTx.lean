/- The reference's Fired; no condition beyond that the timers can be read. -/
import Derived.Test.YtnphjohmkjoefaaTv
import Derived.Deep.RegionHeld3
namespace Go.Proofs.Ytnphjohmkjoefaa
open Go.RowKit Go.Sort

set_option maxHeartbeats 12800000 in
set_option maxRecDepth 100000 in
theorem fired4_any : DoesMF 64 firedL firedX firedB := by
  intro t q v w h
  have H := Lib.hid h
  obtain ⟨hv, lv, rfl, ⟨A1, c1, rfl, s2⟩, ⟨A2, c2, rfl, s3⟩⟩ := h
  have m1 := s2.rd.1
  have m2 := s3.rd.1
  unfold maxLen at m1 m2
  obtain ⟨W, hW⟩ : ∃ W, W = ((w.alloc (.cells #[.slice A1 t.heap.length c1, .slice A2 t.list.length c2, .int .i64 t.next] 27)).alloc (.cells #[.slice none 0 0, .slice none 0 0, .int .i64 0] 27)).alloc (.cells #[.int .i64 0, .int .i64 0, .int .i64 0, .int .i64 0, .bool false] 50) := ⟨_, rfl⟩
  have KV : Hid (Kept 0 0 w W) := by show Kept _ _ _ _; rw [hW]; exact ((Kept.alloc0 _ _).alloc _).alloc _
  have B0 : Hid (Blk W w.heap.size 27 #[.slice A1 t.heap.length c1, .slice A2 t.list.length c2, .int .i64 t.next]) := by show Blk _ _ _ _; rw [hW]; exact ((Blk.new _ _ _).alloc _).alloc _
  have R0 : Hid (Blk W (w.heap.size + 1) 27 #[.slice none 0 0, .slice none 0 0, .int .i64 0]) := by show Blk _ _ _ _; rw [hW]; exact (blk2_new _ _ _ _).alloc _
  have Q0 : Hid (Blk W (w.heap.size + 1 + 1) 50 #[.int .i64 0, .int .i64 0, .int .i64 0, .int .i64 0, .bool false]) := by
    show Blk _ _ _ _
    rw [hW]
    have := Blk.new ((w.alloc (.cells #[.slice A1 t.heap.length c1, .slice A2 t.list.length c2, .int .i64 t.next] 27)).alloc (.cells #[.slice none 0 0, .slice none 0 0, .int .i64 0] 27)) 50 #[.int .i64 0, .int .i64 0, .int .i64 0, .int .i64 0, .bool false]
    simpa using this
  have zW : w.heap.size + 3 ≤ W.heap.size := by rw [hW]; simp
  have CO := Lib.hid (ok4_any t _ W (H.out.up KV.out))
  have HW := Lib.hid hW
  have S3 := Lib.hid s3
  have S2 := Lib.hid s2
  clear s2 s3 hW
  go_enter Try.func64, Try.ntmps64
  go_wp2_with fail
  rw [← HW.out]
  with_reducible refine CO.out.mono ?_
  rintro e w1 ⟨rfl, hk⟩
  have K1 := Lib.hid (KV.out.trans hk)
  have B1 := Lib.hid (B0.out.kept hk (.inl (Nat.le_refl _)))
  have R1 := Lib.hid (R0.out.kept hk (.inl (Nat.le_refl _)))
  have Q1 := Lib.hid (Q0.out.kept hk (.inl (Nat.le_refl _)))
  have z1 := hk.size
  clear hk CO HW B0 R0 Q0
  cases ho : timersOkB t
  · have E : Hid (firedB t q = false) := by show _ = _; simp [firedB, ho]
    have E2 : Hid (firedL t q = zeroT) := by show _ = _; simp [firedL, ho]
    have E3 : Hid (firedX t q = zeroTm) := by show _ = _; simp [firedX, ho]
    have r0 := bx0 (R1.out)
    have r1 := bx1 (R1.out)
    have r2 := bx2 (R1.out)
    have f0 := R1.out.frozen 0
    have f1 := R1.out.frozen 1
    have f2 := R1.out.frozen 2
    have QX := blk3far Q1.out (g := w.heap.size + 1) (by omega) (.slice none 0 0) (.slice none 0 0) (.int .i64 0)
    have q0 := by0 (Q1.out)
    have q1 := by1 (Q1.out)
    have q2 := by2 (Q1.out)
    have q3 := by3 (Q1.out)
    have q4 := by4 (Q1.out)
    have fq0 := Q1.out.frozen 0
    have fq1 := Q1.out.frozen 1
    have fq2 := Q1.out.frozen 2
    have fq3 := Q1.out.frozen 3
    have fq4 := Q1.out.frozen 4
    have qx0 := by0 (QX)
    have qx1 := by1 (QX)
    have qx2 := by2 (QX)
    have qx3 := by3 (QX)
    have qx4 := by4 (QX)
    have fx0 := QX.frozen 0
    have fx1 := QX.frozen 1
    have fx2 := QX.frozen 2
    have fx3 := QX.frozen 3
    have fx4 := QX.frozen 4
    have BF := blk8a R1.out (.slice none 0 0) (.slice none 0 0) (.int .i64 0) (.int .i64 0) (.int .i64 0) (.int .i64 0) (.int .i64 0) (.bool false)
    have BG := blk8b Q1.out (.slice none 0 0) (.slice none 0 0) (.int .i64 0) (.int .i64 0) (.int .i64 0) (.int .i64 0) (.int .i64 0) (.bool false)
    have F0 := bx0 (BF)
    have F1 := bx1 (BF)
    have F2 := bx2 (BF)
    have G0 := by0 (BG)
    have G1 := by1 (BG)
    have G2 := by2 (BG)
    have G3 := by3 (BG)
    have G4 := by4 (BG)
    have kF := kept8 w1 (w.heap.size + 1) (.slice none 0 0) (.slice none 0 0) (.int .i64 0) (.int .i64 0) (.int .i64 0) (.int .i64 0) (.int .i64 0) (.bool false)
    have KF := Lib.hid kF
    have zF := kF.size
    clear QX BF BG kF
    clear ho
    go_wp2_with fail
    obtain ⟨FW, hFW⟩ : ∃ FW, FW = ((((((((w1.setCell ⟨w.heap.size + 1, 0, none⟩ (.slice none 0 0)).setCell ⟨w.heap.size + 1, 1, none⟩ (.slice none 0 0)).setCell ⟨w.heap.size + 1, 2, none⟩ (.int .i64 0)).setCell ⟨w.heap.size + 1 + 1, 0, none⟩ (.int .i64 0)).setCell ⟨w.heap.size + 1 + 1, 1, none⟩ (.int .i64 0)).setCell ⟨w.heap.size + 1 + 1, 2, none⟩ (.int .i64 0)).setCell ⟨w.heap.size + 1 + 1, 3, none⟩ (.int .i64 0)).setCell ⟨w.heap.size + 1 + 1, 4, none⟩ (.bool false)) := ⟨_, rfl⟩
    rw [← hFW]
    have P0 : FW.cell? ⟨w.heap.size + 1, 0, none⟩ = some (.slice none 0 0) := by rw [hFW]; exact F0
    have P1 : FW.cell? ⟨w.heap.size + 1, 1, none⟩ = some (.slice none 0 0) := by rw [hFW]; exact F1
    have P2 : FW.cell? ⟨w.heap.size + 1, 2, none⟩ = some (.int .i64 0) := by rw [hFW]; exact F2
    have R0 : FW.cell? ⟨w.heap.size + 1 + 1, 0, none⟩ = some (.int .i64 0) := by rw [hFW]; exact G0
    have R1 : FW.cell? ⟨w.heap.size + 1 + 1, 1, none⟩ = some (.int .i64 0) := by rw [hFW]; exact G1
    have R2 : FW.cell? ⟨w.heap.size + 1 + 1, 2, none⟩ = some (.int .i64 0) := by rw [hFW]; exact G2
    have R3 : FW.cell? ⟨w.heap.size + 1 + 1, 3, none⟩ = some (.int .i64 0) := by rw [hFW]; exact G3
    have R4 : FW.cell? ⟨w.heap.size + 1 + 1, 4, none⟩ = some (.bool false) := by rw [hFW]; exact G4
    have KW : Hid (Kept 0 0 w FW) := by show Kept _ _ _ _; rw [hFW]; exact (K1.out.trans2 KF.out (.inr (by omega)))
    have KG : Hid (Kept (w.heap.size + 1) (w.heap.size + 1 + 2) w1 FW) := by show Kept _ _ _ _; rw [hFW]; exact KF.out
    have zG := KG.out.size
    clear hFW F0 F1 F2 G0 G1 G2 G3 G4
    refine bodyPost_ret (v := .tuple #[.agg #[.slice none 0 0, .slice none 0 0, .int .i64 0], .agg #[.int .i64 0, .int .i64 0, .int .i64 0, .int .i64 0, .bool false], .bool false]) (by simp [results, Try.results64, go_sem, P0, P1, P2, R0, R1, R2, R3, R4]) rfl ⟨_, ret_u0b E3.out E.out.symm, ?_, KW.out⟩
    rw [E2.out]
    exact zero_own _ _ _
  · have OK := Lib.hid (timersOk_iff.1 ho)
    have lh : t.heap.length ≤ 64 := (heapOk_iff.1 OK.out.heap).1
    have ll : t.list.length ≤ 64 := OK.out.len
    have EL : Hid (firedL t q = firedT t q) := by show _ = _; simp [firedL, ho]
    have EB : Hid (firedB t q = (firedAt t q).isSome) := by show _ = _; simp [firedB, ho]
    have EX : Hid (firedX t q = (match firedAt t q with | none => zeroTm | some k => t.list.getD k zeroTm)) := by show _ = _; simp only [firedX, ho, if_true]; cases firedAt t q <;> rfl
    have CC := Lib.hid (copy4_any t _ w1 (H.out.up K1.out) (by omega) (by omega))
    have b0 := bx0 (B1.out)
    have b1 := bx1 (B1.out)
    have b2 := bx2 (B1.out)
    clear ho
    go_wp2_with fail
    clear b0 b1 b2
    with_reducible refine CC.out.mono ?_
    rintro e w2 ⟨u, rfl, ⟨_, _, rfl, ⟨D1, d1, rfl, o1⟩, ⟨D2, d2, rfl, o2⟩⟩, hk⟩
    obtain ⟨V, hV⟩ : ∃ V, V = w2.alloc (.cells #[.slice D1 t.heap.length d1, .slice D2 t.list.length d2, .int .i64 t.next] 27) := ⟨_, rfl⟩
    have kV : Kept 0 0 w2 V := by rw [hV]; exact Kept.alloc0 _ _
    have K2 := Lib.hid (K1.out.trans (hk.trans kV))
    have B2 := Lib.hid (B1.out.kept (hk.trans kV) (.inl (Nat.le_refl _)))
    have R2 := Lib.hid (R1.out.kept (hk.trans kV) (.inl (Nat.le_refl _)))
    have Q2 := Lib.hid (Q1.out.kept (hk.trans kV) (.inl (Nat.le_refl _)))
    have U2 : Hid (Blk V w2.heap.size 27 #[.slice D1 t.heap.length d1, .slice D2 t.list.length d2, .int .i64 t.next]) := by show Blk _ _ _ _; rw [hV]; exact Blk.new _ _ _
    have O1 := Lib.hid (o1.kept kV (.inl (Nat.le_refl _)))
    have O2 := Lib.hid (o2.kept kV (.inl (Nat.le_refl _)))
    have z2 := hk.size
    have zV := kV.size
    have yV := U2.out.lt
    have HV := Lib.hid hV
    rename_i K4 a4 K3 a3
    have A4 := Lib.hid a4
    clear a4 hk kV o1 o2 CC B1 R1 K1 hV
    go_wp2_with fail
    rw [← HV.out]
    refine A4.out _ _ ?_
    clear HV A4
    cases hh : t.heap with
    | nil =>
      have e0 : t.heap.length = 0 := by rw [hh]; rfl
      have fa : firedAt t q = none := by simp [firedAt, hh]
      have E : Hid (firedB t q = false) := by show _ = _; rw [EB.out, fa]; rfl
      have E2 : Hid (firedL t q = t) := by show _ = _; rw [EL.out, firedT, fa]
      have E3 : Hid (firedX t q = zeroTm) := by show _ = _; rw [EX.out, fa]
      have b0 : V.cell? ⟨w.heap.size, 0, none⟩ = some (.slice A1 0 c1) := by have := B2.out.cell 0; rw [e0] at this; exact this
      clear hh fa e0
      have u0 := bx0 (U2.out)
      have u1 := bx1 (U2.out)
      have u2 := bx2 (U2.out)
      have r0 := bx0 (R2.out)
      have r1 := bx1 (R2.out)
      have r2 := bx2 (R2.out)
      have f0 := R2.out.frozen 0
      have f1 := R2.out.frozen 1
      have f2 := R2.out.frozen 2
      have QX := blk3far Q2.out (g := w.heap.size + 1) (by omega) (.slice D1 t.heap.length d1) (.slice D2 t.list.length d2) (.int .i64 t.next)
      have q0 := by0 (Q2.out)
      have q1 := by1 (Q2.out)
      have q2 := by2 (Q2.out)
      have q3 := by3 (Q2.out)
      have q4 := by4 (Q2.out)
      have fq0 := Q2.out.frozen 0
      have fq1 := Q2.out.frozen 1
      have fq2 := Q2.out.frozen 2
      have fq3 := Q2.out.frozen 3
      have fq4 := Q2.out.frozen 4
      have qx0 := by0 (QX)
      have qx1 := by1 (QX)
      have qx2 := by2 (QX)
      have qx3 := by3 (QX)
      have qx4 := by4 (QX)
      have fx0 := QX.frozen 0
      have fx1 := QX.frozen 1
      have fx2 := QX.frozen 2
      have fx3 := QX.frozen 3
      have fx4 := QX.frozen 4
      have BF := blk8a R2.out (.slice D1 t.heap.length d1) (.slice D2 t.list.length d2) (.int .i64 t.next) (.int .i64 0) (.int .i64 0) (.int .i64 0) (.int .i64 0) (.bool false)
      have BG := blk8b Q2.out (.slice D1 t.heap.length d1) (.slice D2 t.list.length d2) (.int .i64 t.next) (.int .i64 0) (.int .i64 0) (.int .i64 0) (.int .i64 0) (.bool false)
      have F0 := bx0 (BF)
      have F1 := bx1 (BF)
      have F2 := bx2 (BF)
      have G0 := by0 (BG)
      have G1 := by1 (BG)
      have G2 := by2 (BG)
      have G3 := by3 (BG)
      have G4 := by4 (BG)
      have kF := kept8 V (w.heap.size + 1) (.slice D1 t.heap.length d1) (.slice D2 t.list.length d2) (.int .i64 t.next) (.int .i64 0) (.int .i64 0) (.int .i64 0) (.int .i64 0) (.bool false)
      have KF := Lib.hid kF
      have zF := kF.size
      clear QX BF BG kF
      go_wp2_with fail
      obtain ⟨FW, hFW⟩ : ∃ FW, FW = ((((((((V.setCell ⟨w.heap.size + 1, 0, none⟩ (.slice D1 t.heap.length d1)).setCell ⟨w.heap.size + 1, 1, none⟩ (.slice D2 t.list.length d2)).setCell ⟨w.heap.size + 1, 2, none⟩ (.int .i64 t.next)).setCell ⟨w.heap.size + 1 + 1, 0, none⟩ (.int .i64 0)).setCell ⟨w.heap.size + 1 + 1, 1, none⟩ (.int .i64 0)).setCell ⟨w.heap.size + 1 + 1, 2, none⟩ (.int .i64 0)).setCell ⟨w.heap.size + 1 + 1, 3, none⟩ (.int .i64 0)).setCell ⟨w.heap.size + 1 + 1, 4, none⟩ (.bool false)) := ⟨_, rfl⟩
      rw [← hFW]
      have P0 : FW.cell? ⟨w.heap.size + 1, 0, none⟩ = some (.slice D1 t.heap.length d1) := by rw [hFW]; exact F0
      have P1 : FW.cell? ⟨w.heap.size + 1, 1, none⟩ = some (.slice D2 t.list.length d2) := by rw [hFW]; exact F1
      have P2 : FW.cell? ⟨w.heap.size + 1, 2, none⟩ = some (.int .i64 t.next) := by rw [hFW]; exact F2
      have R0 : FW.cell? ⟨w.heap.size + 1 + 1, 0, none⟩ = some (.int .i64 0) := by rw [hFW]; exact G0
      have R1 : FW.cell? ⟨w.heap.size + 1 + 1, 1, none⟩ = some (.int .i64 0) := by rw [hFW]; exact G1
      have R2 : FW.cell? ⟨w.heap.size + 1 + 1, 2, none⟩ = some (.int .i64 0) := by rw [hFW]; exact G2
      have R3 : FW.cell? ⟨w.heap.size + 1 + 1, 3, none⟩ = some (.int .i64 0) := by rw [hFW]; exact G3
      have R4 : FW.cell? ⟨w.heap.size + 1 + 1, 4, none⟩ = some (.bool false) := by rw [hFW]; exact G4
      have KW : Hid (Kept 0 0 w FW) := by show Kept _ _ _ _; rw [hFW]; exact (K2.out.trans2 KF.out (.inr (by omega)))
      have KG : Hid (Kept (w.heap.size + 1) (w.heap.size + 1 + 2) V FW) := by show Kept _ _ _ _; rw [hFW]; exact KF.out
      have zG := KG.out.size
      clear hFW F0 F1 F2 G0 G1 G2 G3 G4
      refine bodyPost_ret (v := .tuple #[.agg #[.slice D1 t.heap.length d1, .slice D2 t.list.length d2, .int .i64 t.next], .agg #[.int .i64 0, .int .i64 0, .int .i64 0, .int .i64 0, .bool false], .bool false]) (by simp [results, Try.results64, go_sem, P0, P1, P2, R0, R1, R2, R3, R4]) rfl ⟨_, ret_u0b E3.out E.out.symm, ?_, KW.out⟩
      rw [E2.out]
      exact ⟨_, _, rfl, ⟨D1, d1, rfl, (O1.out.kept KG.out (.inr (.inr (by omega)))).wide (by omega) (by omega)⟩, ⟨D2, d2, rfl, (O2.out.kept KG.out (.inr (.inr (by omega)))).wide (by omega) (by omega)⟩⟩
    | cons x r =>
      have e0 : t.heap.length = r.length + 1 := by rw [hh]; rfl
      have lr : r.length ≤ 63 := by omega
      have HH := Lib.hid hh
      have s4 := S2.out.kept (Nat.le_refl _) K2.out (.inl (Nat.le_refl _))
      rw [hh] at s4
      obtain ⟨ad, ea, ab, h0, h1, h2⟩ := s4.rd.head
      subst ea
      have H1 := Lib.hid h1
      have g1 : ((((r.length + 1 : Nat) : Int)) == 0) = false := by simp; omega
      have b0 : V.cell? ⟨w.heap.size, 0, none⟩ = some (.slice (some ad) (r.length + 1) c1) := by have := B2.out.cell 0; rw [e0] at this; exact this
      have CI := Lib.hid (due_any q x.due V)
      clear hh s4 h1 h2
      go_wp2_with fail
      with_reducible refine CI.out.mono ?_
      rintro e w3 ⟨rfl, rfl⟩
      clear b0 h0
      cases hd : isDueB q x.due
      · have fa : firedAt t q = none := by simp [firedAt, HH.out, hd]
        have E : Hid (firedB t q = false) := by show _ = _; rw [EB.out, fa]; rfl
        have E2 : Hid (firedL t q = t) := by show _ = _; rw [EL.out, firedT, fa]
        have E3 : Hid (firedX t q = zeroTm) := by show _ = _; rw [EX.out, fa]
        have u0 := bx0 (U2.out)
        have u1 := bx1 (U2.out)
        have u2 := bx2 (U2.out)
        have r0 := bx0 (R2.out)
        have r1 := bx1 (R2.out)
        have r2 := bx2 (R2.out)
        have f0 := R2.out.frozen 0
        have f1 := R2.out.frozen 1
        have f2 := R2.out.frozen 2
        have QX := blk3far Q2.out (g := w.heap.size + 1) (by omega) (.slice D1 (r.length + 1) d1) (.slice D2 t.list.length d2) (.int .i64 t.next)
        have q0 := by0 (Q2.out)
        have q1 := by1 (Q2.out)
        have q2 := by2 (Q2.out)
        have q3 := by3 (Q2.out)
        have q4 := by4 (Q2.out)
        have fq0 := Q2.out.frozen 0
        have fq1 := Q2.out.frozen 1
        have fq2 := Q2.out.frozen 2
        have fq3 := Q2.out.frozen 3
        have fq4 := Q2.out.frozen 4
        have qx0 := by0 (QX)
        have qx1 := by1 (QX)
        have qx2 := by2 (QX)
        have qx3 := by3 (QX)
        have qx4 := by4 (QX)
        have fx0 := QX.frozen 0
        have fx1 := QX.frozen 1
        have fx2 := QX.frozen 2
        have fx3 := QX.frozen 3
        have fx4 := QX.frozen 4
        have BF := blk8a R2.out (.slice D1 (r.length + 1) d1) (.slice D2 t.list.length d2) (.int .i64 t.next) (.int .i64 0) (.int .i64 0) (.int .i64 0) (.int .i64 0) (.bool false)
        have BG := blk8b Q2.out (.slice D1 (r.length + 1) d1) (.slice D2 t.list.length d2) (.int .i64 t.next) (.int .i64 0) (.int .i64 0) (.int .i64 0) (.int .i64 0) (.bool false)
        have F0 := bx0 (BF)
        have F1 := bx1 (BF)
        have F2 := bx2 (BF)
        have G0 := by0 (BG)
        have G1 := by1 (BG)
        have G2 := by2 (BG)
        have G3 := by3 (BG)
        have G4 := by4 (BG)
        have kF := kept8 w3 (w.heap.size + 1) (.slice D1 (r.length + 1) d1) (.slice D2 t.list.length d2) (.int .i64 t.next) (.int .i64 0) (.int .i64 0) (.int .i64 0) (.int .i64 0) (.bool false)
        have KF := Lib.hid kF
        have zF := kF.size
        clear QX BF BG kF
        clear fa hd CI
        go_wp2_with fail
        obtain ⟨FW, hFW⟩ : ∃ FW, FW = ((((((((w3.setCell ⟨w.heap.size + 1, 0, none⟩ (.slice D1 (r.length + 1) d1)).setCell ⟨w.heap.size + 1, 1, none⟩ (.slice D2 t.list.length d2)).setCell ⟨w.heap.size + 1, 2, none⟩ (.int .i64 t.next)).setCell ⟨w.heap.size + 1 + 1, 0, none⟩ (.int .i64 0)).setCell ⟨w.heap.size + 1 + 1, 1, none⟩ (.int .i64 0)).setCell ⟨w.heap.size + 1 + 1, 2, none⟩ (.int .i64 0)).setCell ⟨w.heap.size + 1 + 1, 3, none⟩ (.int .i64 0)).setCell ⟨w.heap.size + 1 + 1, 4, none⟩ (.bool false)) := ⟨_, rfl⟩
        rw [← hFW]
        have P0 : FW.cell? ⟨w.heap.size + 1, 0, none⟩ = some (.slice D1 (r.length + 1) d1) := by rw [hFW]; exact F0
        have P1 : FW.cell? ⟨w.heap.size + 1, 1, none⟩ = some (.slice D2 t.list.length d2) := by rw [hFW]; exact F1
        have P2 : FW.cell? ⟨w.heap.size + 1, 2, none⟩ = some (.int .i64 t.next) := by rw [hFW]; exact F2
        have R0 : FW.cell? ⟨w.heap.size + 1 + 1, 0, none⟩ = some (.int .i64 0) := by rw [hFW]; exact G0
        have R1 : FW.cell? ⟨w.heap.size + 1 + 1, 1, none⟩ = some (.int .i64 0) := by rw [hFW]; exact G1
        have R2 : FW.cell? ⟨w.heap.size + 1 + 1, 2, none⟩ = some (.int .i64 0) := by rw [hFW]; exact G2
        have R3 : FW.cell? ⟨w.heap.size + 1 + 1, 3, none⟩ = some (.int .i64 0) := by rw [hFW]; exact G3
        have R4 : FW.cell? ⟨w.heap.size + 1 + 1, 4, none⟩ = some (.bool false) := by rw [hFW]; exact G4
        have KW : Hid (Kept 0 0 w FW) := by show Kept _ _ _ _; rw [hFW]; exact (K2.out.trans2 KF.out (.inr (by omega)))
        have KG : Hid (Kept (w.heap.size + 1) (w.heap.size + 1 + 2) w3 FW) := by show Kept _ _ _ _; rw [hFW]; exact KF.out
        have zG := KG.out.size
        clear hFW F0 F1 F2 G0 G1 G2 G3 G4
        refine bodyPost_ret (v := .tuple #[.agg #[.slice D1 (r.length + 1) d1, .slice D2 t.list.length d2, .int .i64 t.next], .agg #[.int .i64 0, .int .i64 0, .int .i64 0, .int .i64 0, .bool false], .bool false]) (by simp [results, Try.results64, go_sem, P0, P1, P2, R0, R1, R2, R3, R4]) rfl ⟨_, ret_u0b E3.out E.out.symm, ?_, KW.out⟩
        rw [E2.out]
        exact ⟨_, _, rfl, ⟨D1, d1, by rw [e0], (O1.out.kept KG.out (.inr (.inr (by omega)))).wide (by omega) (by omega)⟩, ⟨D2, d2, rfl, (O2.out.kept KG.out (.inr (.inr (by omega)))).wide (by omega) (by omega)⟩⟩
      · obtain ⟨y, hy, ye, _⟩ := OK.out.armed x (by rw [HH.out]; simp)
        cases hp : atL t.list x.seq with
        | none => exact absurd ye (atL_none.1 hp y hy)
        | some k =>
          obtain ⟨hkl, hke⟩ := atL_some hp
          clear hke
          have fa : firedAt t q = some k := by simp [firedAt, HH.out, hd, hp]
          have E : Hid (firedB t q = true) := by show _ = _; rw [EB.out, fa]; rfl
          have E2 : Hid (firedL t q = ⟨shiftedL t.heap, t.list.set k (disarm t.list[k]), t.next⟩) := by show _ = _; rw [EL.out, firedT, fa]; simp [modify_set hkl]
          have E3 : Hid (t.list[k] = firedX t q) := by show _ = _; rw [EX.out, fa]; simp [hkl]
          have i1 : (k : Int) < (t.list.length : Int) := by omega
          have i3 : decide ((k : Int) < 0) = false := by simp
          have H2 := H.out.up K2.out.drew
          rw [e0] at H2
          have CA := Lib.hid (at4_any t x.seq _ _ _ (Nat.le_refl _) H2)
          rw [atI_some hp] at CA
          have b0 : w3.cell? ⟨w.heap.size, 0, none⟩ = some (.slice (some ad) (r.length + 1) c1) := by have := B2.out.cell 0; rw [e0] at this; exact this
          have KD := Lib.hid (And.intro b0 (And.intro (bx1 B2.out) (And.intro (bx2 B2.out) H1.out)))
          clear fa hd CI b0 H2 hp hy ye
          go_upto_region 6 with fail
          go_cut [8] (fun p wx => p = .int .i64 (k : Int) ∧ Hid (Kept 0 0 w3 wx))
          case first =>
            go_region_held3 (fun w' => w'.cell? ⟨w.heap.size, 0, none⟩ = some (.slice (some ad) (r.length + 1) c1) ∧ w'.cell? ⟨w.heap.size, 1, none⟩ = some (.slice A2 t.list.length c2) ∧ w'.cell? ⟨w.heap.size, 2, none⟩ = some (.int .i64 t.next) ∧ w'.cell? ⟨ad.block, ad.off + 1, none⟩ = some (.int .i64 x.seq))
              (first | exact KD.out | with_reducible exact KW)
              (first
                | (go_at_call 23; (with_reducible refine CA.out.mono ?_); rintro e w4 ⟨rfl, hk⟩; have KK := Lib.hid ((Kept.refl 0 0 w3).drew.trans hk); have KW := held4 S2.out HH.out e0 (K2.out.trans KK.out) (B2.out.kept KK.out (.inl (Nat.le_refl _)))))
            all_goals (go_wp2_with fail; go_meet)
            all_goals exact ⟨rfl, KK⟩
          case rest =>
            obtain ⟨wx, rfl⟩ : ∃ wx : World, wx = wc := ⟨_, rfl⟩
            obtain ⟨rfl, KK⟩ := hcut
            have K3 := Lib.hid (K2.out.trans KK.out)
            have B3 := Lib.hid (B2.out.kept KK.out (.inl (Nat.le_refl _)))
            have R3 := Lib.hid (R2.out.kept KK.out (.inl (Nat.le_refl _)))
            have Q3 := Lib.hid (Q2.out.kept KK.out (.inl (Nat.le_refl _)))
            have U3 := Lib.hid (U2.out.kept KK.out (.inl (Nat.le_refl _)))
            have P2 := Lib.hid (O2.out.kept KK.out (.inl (Nat.le_refl _)))
            have z3 := KK.out.size
            rcases P2.out.form with ⟨_, h0, _⟩ | ⟨g2, rfl, hlo, hhi, _⟩
            · omega
            have c4 : wx.cell? ⟨g2, k * 5 + 4, none⟩ = some (.bool t.list[k].armed) := own_at (R := tmR) P2.out.1 hkl 4 rfl
            have f4 : wx.frozen? ⟨g2, k * 5 + 4, none⟩ = false := P2.out.1.frozenAt _
            obtain ⟨V3, hV3⟩ : ∃ V3, V3 = wx.setCell ⟨g2, k * 5 + 4, none⟩ (.bool false) := ⟨_, rfl⟩
            have k3 : Kept g2 (g2 + 1) wx V3 := by rw [hV3]; exact (Kept.refl g2 (g2 + 1) wx).setCell (.inr ⟨Nat.le_refl _, Nat.lt_succ_self _⟩) _
            have Q2' : Hid (V3.ownsRow w1.heap.size 50 5 (.slice (some ⟨g2, 0, none⟩) t.list.length d2) t.list.length (tmR.flat (t.list.set k (disarm t.list[k])))) := by
              show World.ownsRow _ _ _ _ _ _ _
              rw [hV3]
              exact own_set1Tm P2.out.1 hkl 4 (by decide) _ _ rfl
            have K4 := Lib.hid (K3.out.trans2 k3 (.inr (by omega)))
            have B4 := Lib.hid (B3.out.kept k3 (by omega))
            have R4 := Lib.hid (R3.out.kept k3 (by omega))
            have Q4 := Lib.hid (Q3.out.kept k3 (by omega))
            have U4 := Lib.hid (U3.out.kept k3 (by omega))
            have z4 := k3.size
            have CW := Lib.hid (specShifted.at_ t.heap (.slice (some ad) t.heap.length c1) V3 (by obtain ⟨_, _, e0, r1, _⟩ := H.out.up K4.out; injection e0 with e0; injection e0 with e0; injection e0 with e1 e2; subst e1; exact r1))
            rw [e0] at CW
            have u1 := bx1 U3.out
            have b0 := bx0 B4.out
            rw [e0] at b0
            have HV := Lib.hid hV3
            rw [hV3] at b0
            clear k3 hV3 KD
            go_wp2_with fail
            rw [← HV.out]
            clear u1 b0 HV c4 f4
            with_reducible refine CW.out.mono ?_
            rintro e w4 ⟨u4, rfl, ⟨D4, d4, rfl, o4⟩, hk⟩
            obtain ⟨sx, hsx⟩ : ∃ sx, sx = shiftedL t.heap := ⟨_, rfl⟩
            rw [← hsx] at o4 E2 ⊢
            obtain ⟨V4, hV4⟩ : ∃ V4, V4 = w4.setCell ⟨w2.heap.size, 0, none⟩ (.slice D4 sx.length d4) := ⟨_, rfl⟩
            have k4 : Kept w2.heap.size (w2.heap.size + 1) w4 V4 := by rw [hV4]; exact (Kept.refl w2.heap.size (w2.heap.size + 1) w4).setCell (.inr ⟨Nat.le_refl _, Nat.lt_succ_self _⟩) _
            have U5 := Lib.hid (U4.out.kept hk (.inl (Nat.le_refl _)))
            have y4 := hk.size
            have yy := k4.size
            have U6 : Hid (Blk V4 w2.heap.size 27 #[.slice D4 sx.length d4, .slice (some ⟨g2, 0, none⟩) t.list.length d2, .int .i64 t.next]) := by show Blk _ _ _ _; rw [hV4]; have := U5.out.set_ 0 (.slice D4 sx.length d4); simpa using this
            have K5 := Lib.hid ((K4.out.trans hk).trans2 k4 (.inr (by omega)))
            have B5 := Lib.hid ((B4.out.kept hk (.inl (Nat.le_refl _))).kept k4 (by omega))
            have R5 := Lib.hid ((R4.out.kept hk (.inl (Nat.le_refl _))).kept k4 (by omega))
            have Q5 := Lib.hid ((Q4.out.kept hk (.inl (Nat.le_refl _))).kept k4 (by omega))
            have O4 := Lib.hid (o4.kept k4 (by omega))
            have Z5 := Lib.hid ((OwnZ.mk_ (hi := w2.heap.size) (row_kept Q2'.out hk) hhi).kept k4 (by omega))
            have u0 := bx0 U5.out
            have fu := U5.out.frozen 0
            have HV := Lib.hid hV4
            clear hk k4 hV4 o4 CW U4 B4 R4 K4 Q2' U3 R3 B3 K3 Q3 Q4 hsx
            go_upto_region 9 with fail
            rw [← HV.out]
            clear HV u0 fu
            obtain ⟨ad2, ea, _, e0', e1, e2, e3, e4⟩ := (S3.out.rd.kept (Nat.le_refl _) K5.out (.inl (Nat.le_refl _))).tm hkl
            subst ea
            have SS : Hid (∀ X, Kept (w.heap.size + 1) (w.heap.size + 3) V4 X → X.cell? ⟨w2.heap.size, 0, none⟩ = some (.slice D4 sx.length d4) ∧ X.cell? ⟨w2.heap.size, 1, none⟩ = some (.slice (some ⟨g2, 0, none⟩) t.list.length d2) ∧ X.cell? ⟨w2.heap.size, 2, none⟩ = some (.int .i64 t.next) ∧ X.cell? ⟨w.heap.size, 1, none⟩ = some (.slice (some ad2) t.list.length c2) ∧ X.cell? (ad2.add (k * 5)) = some (.int .i64 t.list[k].seq) ∧ X.cell? ⟨(ad2.add (k * 5)).block, (ad2.add (k * 5)).off + 1, none⟩ = some (.int .i64 t.list[k].due) ∧ X.cell? ⟨(ad2.add (k * 5)).block, (ad2.add (k * 5)).off + 2, none⟩ = some (.int .i64 t.list[k].what) ∧ X.cell? ⟨(ad2.add (k * 5)).block, (ad2.add (k * 5)).off + 3, none⟩ = some (.int .i64 t.list[k].whom) ∧ X.cell? ⟨(ad2.add (k * 5)).block, (ad2.add (k * 5)).off + 4, none⟩ = some (.bool t.list[k].armed)) := by
              intro X kX
              have u := U6.out.kept kX (by omega)
              have b := B5.out.kept kX (by omega)
              obtain ⟨ad3, ea, _, x0, x1, x2, x3, x4⟩ := (S3.out.rd.kept (Nat.le_refl _) (K5.out.trans2 kX (.inr (by omega))) (.inl (Nat.le_refl _))).tm hkl
              injection ea with ea
              subst ea
              exact ⟨bx0 u, bx1 u, bx2 u, bx1 b, x0, x1, x2, x3, x4⟩
            clear e0' e1 e2 e3 e4
            have r0 := bx0 (R5.out)
            have r1 := bx1 (R5.out)
            have r2 := bx2 (R5.out)
            have f0 := R5.out.frozen 0
            have f1 := R5.out.frozen 1
            have f2 := R5.out.frozen 2
            have QX := blk3far Q5.out (g := w.heap.size + 1) (by omega) (.slice D4 sx.length d4) (.slice (some ⟨g2, 0, none⟩) t.list.length d2) (.int .i64 t.next)
            have q0 := by0 (Q5.out)
            have q1 := by1 (Q5.out)
            have q2 := by2 (Q5.out)
            have q3 := by3 (Q5.out)
            have q4 := by4 (Q5.out)
            have fq0 := Q5.out.frozen 0
            have fq1 := Q5.out.frozen 1
            have fq2 := Q5.out.frozen 2
            have fq3 := Q5.out.frozen 3
            have fq4 := Q5.out.frozen 4
            have qx0 := by0 (QX)
            have qx1 := by1 (QX)
            have qx2 := by2 (QX)
            have qx3 := by3 (QX)
            have qx4 := by4 (QX)
            have fx0 := QX.frozen 0
            have fx1 := QX.frozen 1
            have fx2 := QX.frozen 2
            have fx3 := QX.frozen 3
            have fx4 := QX.frozen 4
            have BF := blk8a R5.out (.slice D4 sx.length d4) (.slice (some ⟨g2, 0, none⟩) t.list.length d2) (.int .i64 t.next) (.int .i64 t.list[k].seq) (.int .i64 t.list[k].due) (.int .i64 t.list[k].what) (.int .i64 t.list[k].whom) (.bool t.list[k].armed)
            have BG := blk8b Q5.out (.slice D4 sx.length d4) (.slice (some ⟨g2, 0, none⟩) t.list.length d2) (.int .i64 t.next) (.int .i64 t.list[k].seq) (.int .i64 t.list[k].due) (.int .i64 t.list[k].what) (.int .i64 t.list[k].whom) (.bool t.list[k].armed)
            have F0 := bx0 (BF.drew)
            have F1 := bx1 (BF.drew)
            have F2 := bx2 (BF.drew)
            have G0 := by0 (BG.drew)
            have G1 := by1 (BG.drew)
            have G2 := by2 (BG.drew)
            have G3 := by3 (BG.drew)
            have G4 := by4 (BG.drew)
            have kF := kept8 V4 (w.heap.size + 1) (.slice D4 sx.length d4) (.slice (some ⟨g2, 0, none⟩) t.list.length d2) (.int .i64 t.next) (.int .i64 t.list[k].seq) (.int .i64 t.list[k].due) (.int .i64 t.list[k].what) (.int .i64 t.list[k].whom) (.bool t.list[k].armed)
            have KF := Lib.hid kF
            have zF := kF.size
            clear QX BF BG kF
            have FF := Lib.hid (And.intro F0 (And.intro F1 (And.intro F2 (And.intro G0 (And.intro G1 (And.intro G2 (And.intro G3 G4)))))))
            clear F0 F1 F2 G0 G1 G2 G3 G4
            have i0 : (0 : Int) ≤ (k : Int) := by omega
            go_region_held3 (fun w' => w'.cell? ⟨w2.heap.size, 0, none⟩ = some (.slice D4 sx.length d4) ∧ w'.cell? ⟨w2.heap.size, 1, none⟩ = some (.slice (some ⟨g2, 0, none⟩) t.list.length d2) ∧ w'.cell? ⟨w2.heap.size, 2, none⟩ = some (.int .i64 t.next) ∧ w'.cell? ⟨w.heap.size, 1, none⟩ = some (.slice (some ad2) t.list.length c2) ∧ w'.cell? (ad2.add (k * 5)) = some (.int .i64 t.list[k].seq) ∧ w'.cell? ⟨(ad2.add (k * 5)).block, (ad2.add (k * 5)).off + 1, none⟩ = some (.int .i64 t.list[k].due) ∧ w'.cell? ⟨(ad2.add (k * 5)).block, (ad2.add (k * 5)).off + 2, none⟩ = some (.int .i64 t.list[k].what) ∧ w'.cell? ⟨(ad2.add (k * 5)).block, (ad2.add (k * 5)).off + 3, none⟩ = some (.int .i64 t.list[k].whom) ∧ w'.cell? ⟨(ad2.add (k * 5)).block, (ad2.add (k * 5)).off + 4, none⟩ = some (.bool t.list[k].armed))
              (first | (refine SS.out _ ?_; (repeat (first | with_reducible exact Kept.refl _ _ V4 | with_reducible refine Kept.drew ?_ | with_reducible refine Kept.setCell ?_ (.inr ⟨(by first | omega | (simp; done) | (simp; omega)), (by first | omega | (simp; done) | (simp; omega))⟩) _))))
              (fail)
            go_wp2_with fail
            obtain ⟨F0, F1, F2, G0, G1, G2, G3, G4⟩ := FF.out
            obtain ⟨FW, hFW⟩ : ∃ FW, FW = ((((((((V4.setCell ⟨w.heap.size + 1, 0, none⟩ (.slice D4 sx.length d4)).setCell ⟨w.heap.size + 1, 1, none⟩ (.slice (some ⟨g2, 0, none⟩) t.list.length d2)).setCell ⟨w.heap.size + 1, 2, none⟩ (.int .i64 t.next)).setCell ⟨w.heap.size + 1 + 1, 0, none⟩ (.int .i64 t.list[k].seq)).setCell ⟨w.heap.size + 1 + 1, 1, none⟩ (.int .i64 t.list[k].due)).setCell ⟨w.heap.size + 1 + 1, 2, none⟩ (.int .i64 t.list[k].what)).setCell ⟨w.heap.size + 1 + 1, 3, none⟩ (.int .i64 t.list[k].whom)).setCell ⟨w.heap.size + 1 + 1, 4, none⟩ (.bool t.list[k].armed)).drew := ⟨_, rfl⟩
            rw [← hFW]
            have P0 : FW.cell? ⟨w.heap.size + 1, 0, none⟩ = some (.slice D4 sx.length d4) := by rw [hFW]; exact F0
            have P1 : FW.cell? ⟨w.heap.size + 1, 1, none⟩ = some (.slice (some ⟨g2, 0, none⟩) t.list.length d2) := by rw [hFW]; exact F1
            have P2 : FW.cell? ⟨w.heap.size + 1, 2, none⟩ = some (.int .i64 t.next) := by rw [hFW]; exact F2
            have R0 : FW.cell? ⟨w.heap.size + 1 + 1, 0, none⟩ = some (.int .i64 t.list[k].seq) := by rw [hFW]; exact G0
            have R1 : FW.cell? ⟨w.heap.size + 1 + 1, 1, none⟩ = some (.int .i64 t.list[k].due) := by rw [hFW]; exact G1
            have R2 : FW.cell? ⟨w.heap.size + 1 + 1, 2, none⟩ = some (.int .i64 t.list[k].what) := by rw [hFW]; exact G2
            have R3 : FW.cell? ⟨w.heap.size + 1 + 1, 3, none⟩ = some (.int .i64 t.list[k].whom) := by rw [hFW]; exact G3
            have R4 : FW.cell? ⟨w.heap.size + 1 + 1, 4, none⟩ = some (.bool t.list[k].armed) := by rw [hFW]; exact G4
            have KW : Hid (Kept 0 0 w FW) := by show Kept _ _ _ _; rw [hFW]; exact (K5.out.trans2 KF.out (.inr (by omega))).drew
            have KG : Hid (Kept (w.heap.size + 1) (w.heap.size + 1 + 2) V4 FW) := by show Kept _ _ _ _; rw [hFW]; exact KF.out.drew
            have zG := KG.out.size
            clear hFW F0 F1 F2 G0 G1 G2 G3 G4
            refine bodyPost_ret (v := .tuple #[.agg #[.slice D4 sx.length d4, .slice (some ⟨g2, 0, none⟩) t.list.length d2, .int .i64 t.next], .agg #[.int .i64 t.list[k].seq, .int .i64 t.list[k].due, .int .i64 t.list[k].what, .int .i64 t.list[k].whom, .bool t.list[k].armed], .bool true]) (by simp [results, Try.results64, go_sem, P0, P1, P2, R0, R1, R2, R3, R4]) rfl ⟨_, ret_uxb E3.out E.out.symm, ?_, KW.out⟩
            rw [E2.out]
            exact ⟨_, _, rfl, ⟨D4, d4, rfl, (O4.out.kept KG.out (.inr (.inr (by omega)))).wide (by omega) (Nat.le_trans (by omega : w4.heap.size ≤ V4.heap.size) zG)⟩, ⟨some ⟨g2, 0, none⟩, d2, by rw [List.length_set], by rw [List.length_set]; exact (Z5.out.kept KG.out (.inr (.inr (by omega)))).wide (by omega) (Nat.le_trans (by omega : w2.heap.size ≤ V4.heap.size) zG)⟩⟩
end Go.Proofs.Ytnphjohmkjoefaa
