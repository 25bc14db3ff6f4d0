/- The law FnLetGo returns true for every code that can be read and has at most 4096 bytes, and keeps old memory; condition: the package's variables lie where the program laid them. -/
import Derived.Test.YtgahjachkeoflaaDoorYf
import Derived.Test.YtgahjachkeoflaaDoorYg
import Derived.Test.YtgahjachkeoflaaDoorXw
namespace Go.Proofs.YtgahjachkeoflaaDoor
open Go.RowKit Go.Sort

set_option maxHeartbeats 6400000 in
set_option maxRecDepth 100000 in
theorem lawLetGo_small (xs : List Int) (A : Option Addr) (c : Nat) (a0 a1 : Addr) (w : World) (hs : Sen w a0 a1) (hy : Typ w) (h : Rd (Value.int .u8) w w.heap.size A xs) (hx : ∀ x ∈ xs, 0 ≤ x ∧ x ≤ 255) (hl : xs.length ≤ 4096) :
    Calls Tryd.prog 3 #[.slice A xs.length c] w fun e w' => e = .returned (.bool true) ∧ Kept 0 0 w w' := by
  have hm := h.1
  have hbig : decide (4096 < xs.length) = false := by simpa using hl
  have H := Lib.hid h
  have HX := Lib.hid hx
  have HS := Lib.hid hs
  have HY := Lib.hid hy
  clear h hx hs hy
  go_enter Tryd.func3, Tryd.ntmps3
  go_wp2_with fail
  with_reducible refine (big_any _ _ _ _ hm).mono ?_
  rintro e w' ⟨rfl, rfl⟩
  rw [hbig]
  clear hbig
  go_wp2_with fail
  with_reducible refine (drawLetGo_any _ _ _ _ H.out HX.out hl).mono ?_
  rintro e w1 ⟨vt, vl, t, l, x, rfl, P1, P2, P3, ot, ol, hk⟩
  obtain ⟨D, d, rfl, -⟩ := id ot
  obtain ⟨B, d2, rfl, -⟩ := id ol
  obtain ⟨V, hV⟩ : ∃ V, V = w1.alloc (.cells #[.int .i64 x.node, .int .i64 x.err, .int .i64 x.cause, .int .i64 x.time] 27) := ⟨_, rfl⟩
  have k1 : Kept 0 0 w1 V := by rw [hV]; exact Kept.alloc0 _ _
  have z1 := hk.size
  have zV : w1.heap.size < V.heap.size := by rw [hV]; simp
  have OT := Lib.hid (ot.kept k1 (.inl (Nat.le_refl _)))
  have OL := Lib.hid (ol.kept k1 (.inl (Nat.le_refl _)))
  have BE : Hid (Blk V w1.heap.size 27 #[.int .i64 x.node, .int .i64 x.err, .int .i64 x.cause, .int .i64 x.time]) := by show Blk _ _ _ _; rw [hV]; exact Blk.new _ _ _
  have KV := Lib.hid (hk.trans k1)
  have HV := Lib.hid hV
  obtain ⟨be, hbe⟩ : ∃ be, be = w1.heap.size := ⟨_, rfl⟩
  have HBE := Lib.hid hbe
  have hbV : be < V.heap.size := by omega
  rw [← hbe] at BE
  clear hk k1 hV ot ol H HX hm hl hbe
  go_upto_region 3 with fail
  rw [← HV.out, ← HBE.out]
  clear HV HBE
  have bb0 := BE.out.cell 0
  have bb1 := BE.out.cell 1
  have bb2 := BE.out.cell 2
  have bb3 := BE.out.cell 3
  go_wp2_with fail
  with_reducible refine (implLet t l x _ _ a0 a1 V (HS.out.kept KV.out) (OT.out.rdW (by omega)) (OL.out.rdW (by omega))).mono ?_
  rintro e w2 ⟨z, rfl, oz, hk⟩
  have BE2 := Lib.hid (BE.out.kept hk (.inl (Nat.le_refl _)))
  have OT2 := Lib.hid (OT.out.kept hk (.inl (Nat.le_refl _)))
  have OL2 := Lib.hid (OL.out.kept hk (.inl (Nat.le_refl _)))
  have OZ2 := Lib.hid oz
  have K2 := Lib.hid (KV.out.trans hk)
  have z2 := hk.size
  clear hk oz BE OT OL bb0 bb1 bb2 bb3
  have bb0 := BE2.out.cell 0
  have bb1 := BE2.out.cell 1
  have bb2 := BE2.out.cell 2
  have bb3 := BE2.out.cell 3
  go_wp2_with fail
  with_reducible refine (let6_any t l x _ _ w2 (OT2.out.rdW (by omega)) (OL2.out.rdW (by omega))).mono ?_
  rintro e w3 ⟨y, rfl, -, hk⟩
  have BE := Lib.hid (BE2.out.kept hk (.inl (Nat.le_refl _)))
  have OT := Lib.hid (OT2.out.kept hk (.inl (Nat.le_refl _)))
  have OL := Lib.hid (OL2.out.kept hk (.inl (Nat.le_refl _)))
  have OZ := Lib.hid (OZ2.out.kept hk (.inl (Nat.le_refl _)))
  have K3 := Lib.hid (K2.out.trans hk)
  have z3 := hk.size
  clear hk BE2 OT2 OL2 OZ2 K2 KV bb0 bb1 bb2 bb3
  obtain ⟨q, hq⟩ : ∃ q, q = letB t l x := ⟨_, rfl⟩
  rw [← hq]
  have q1 : (q != q) = false := by simp
  have HQ := Lib.hid hq
  clear hq
  cases q with
  | false =>
    clear q1
    go_wp2_with fail
    with_reducible refine (events6_any t l _ _ w3 (OT.out.rdW (by omega)) (OL.out.rdW (by omega))).mono ?_
    rintro e w4 ⟨rfl, hk⟩
    have K4 := Lib.hid (K3.out.trans hk)
    have OZ4 := Lib.hid (OZ.out.kept hk (.inl (Nat.le_refl _)))
    have OL4 := Lib.hid (OL.out.kept hk (.inl (Nat.le_refl _)))
    have z4 := hk.size
    clear hk OZ OL
    cases q2 : eventsB t l
    · clear q2
      go_wp2
      go_ret
      exact ⟨rfl, K4.out⟩
    · have qm : mayB t l x = false := by have := HQ.out; rw [letB, q2, Bool.true_and] at this; exact this.symm
      have EL : letL t l x = l := by simp [letL, q2, qm]
      rw [EL] at OZ4
      clear q2 qm EL HQ
      go_wp2_with fail
      with_reducible refine (like_true l _ _ w4 (OZ4.out.rdW (by omega)) (OL4.out.rdW (by omega))).mono ?_
      rintro e w5 ⟨rfl, hk⟩
      have K5 := Lib.hid (K4.out.trans hk)
      clear hk
      go_wp2
      go_ret
      exact ⟨rfl, K5.out⟩
  | true =>
    clear q1
    have qb : eventsB t l = true ∧ mayB t l x = true := by
      have := HQ.out
      rw [letB] at this
      exact (Bool.and_eq_true _ _).mp this.symm
    have QB := Lib.hid qb
    have EL : letL t l x = l ++ [x] := by simp [letL, qb.1, qb.2]
    rw [EL] at OZ
    have LL : l.length ≤ 60 := events_len qb.1
    have E2 : Hid (eventsB t (l ++ [x]) = true) := by show _ = _; rw [events_snoc, qb.1, qb.2]; rfl
    clear EL HQ qb
    obtain ⟨l2, hl2⟩ : ∃ l2, l2 = l ++ [x] := ⟨_, rfl⟩
    have HL2 := Lib.hid hl2
    rw [← hl2] at OZ E2
    clear hl2
    go_wp2_with fail
    go_loopw [10] (fun i wr => ∃ k : Nat, k ≤ t.length ∧ i = .int .i64 k ∧ Hid (Kept 0 0 w wr) ∧ Hid (Kept 0 0 w3 wr)) (fun i _ => t.length - (intOf i).toNat)
    case atStart => exact ⟨0, Nat.zero_le _, rfl, K3, Lib.hid (Kept.refl _ _ _)⟩
    case round =>
      clear K3
      obtain ⟨k, hk, rfl, K, K'⟩ := hrel
      have zr := K'.out.size
      by_cases hlt : k < t.length
      · have i1 : (k : Int) < (t.length : Int) := by omega
        go_wp2_with fail
        with_reducible refine (implFirst t l k _ _ a0 a1 wr (HS.out.kept K.out) ((OT.out.kept K'.out (.inl (Nat.le_refl _))).rdW (by omega)) ((OL.out.kept K'.out (.inl (Nat.le_refl _))).rdW (by omega)) (HY.out.kept K.out)).mono ?_
        rintro e w4 ⟨rfl, hk4⟩
        obtain ⟨N1, hN1⟩ : ∃ N1, N1 = fstE t l k := ⟨_, rfl⟩
        obtain ⟨b1, hb1⟩ : ∃ b1, b1 = fstB t l k := ⟨_, rfl⟩
        rw [← hN1, ← hb1]
        obtain ⟨VA, hVA⟩ : ∃ VA, VA = w4.alloc (.cells #[.int .i64 N1.node, .int .i64 N1.err, .int .i64 N1.cause, .int .i64 N1.time] 27) := ⟨_, rfl⟩
        have BA : Hid (Blk VA w4.heap.size 27 #[.int .i64 N1.node, .int .i64 N1.err, .int .i64 N1.cause, .int .i64 N1.time]) := by show Blk _ _ _ _; rw [hVA]; exact Blk.new _ _ _
        have k4 : Kept 0 0 wr VA := by rw [hVA]; exact hk4.alloc _
        have z4 : w4.heap.size < VA.heap.size := by rw [hVA]; simp
        obtain ⟨ba, hba⟩ : ∃ ba, ba = w4.heap.size := ⟨_, rfl⟩
        have z4' : ba < VA.heap.size := by omega
        rw [← hba] at BA
        have KA := Lib.hid (K.out.trans k4)
        have KA' := Lib.hid (K'.out.trans k4)
        have zA := KA'.out.size
        have HVA := Lib.hid hVA
        have HBA := Lib.hid hba
        have HN1 := Lib.hid hN1
        have HB1 := Lib.hid hb1
        clear hk4 k4 hVA hba hN1 hb1 K K'
        go_wp2_with fail
        rw [← HVA.out, ← HBA.out]
        clear HVA HBA
        with_reducible refine (implFirst t l2 k _ _ a0 a1 VA (HS.out.kept KA.out) ((OT.out.kept KA'.out (.inl (Nat.le_refl _))).rdW (by omega)) ((OZ.out.kept KA'.out (.inl (Nat.le_refl _))).rdW (by omega)) (HY.out.kept KA.out)).mono ?_
        rintro e w5 ⟨rfl, hk5⟩
        obtain ⟨N2, hN2⟩ : ∃ N2, N2 = fstE t l2 k := ⟨_, rfl⟩
        obtain ⟨b2, hb2⟩ : ∃ b2, b2 = fstB t l2 k := ⟨_, rfl⟩
        rw [← hN2, ← hb2]
        obtain ⟨VB, hVB⟩ : ∃ VB, VB = w5.alloc (.cells #[.int .i64 N2.node, .int .i64 N2.err, .int .i64 N2.cause, .int .i64 N2.time] 27) := ⟨_, rfl⟩
        have BB : Hid (Blk VB w5.heap.size 27 #[.int .i64 N2.node, .int .i64 N2.err, .int .i64 N2.cause, .int .i64 N2.time]) := by show Blk _ _ _ _; rw [hVB]; exact Blk.new _ _ _
        have k5 : Kept 0 0 VA VB := by rw [hVB]; exact hk5.alloc _
        have BA2 := Lib.hid (BA.out.kept k5 (.inl (Nat.le_refl _)))
        have z5 : w5.heap.size < VB.heap.size := by rw [hVB]; simp
        obtain ⟨bb, hbb⟩ : ∃ bb, bb = w5.heap.size := ⟨_, rfl⟩
        have z5' : bb < VB.heap.size := by omega
        rw [← hbb] at BB
        have KB := Lib.hid (KA.out.trans k5)
        have KB' := Lib.hid (KA'.out.trans k5)
        have zB := KB'.out.size
        have HVB := Lib.hid hVB
        have HBB := Lib.hid hbb
        have HN2 := Lib.hid hN2
        have HB2 := Lib.hid hb2
        clear hk5 k5 hVB hbb hN2 hb2 KA KA' BA
        go_upto_region 15 with fail
        rw [← HVB.out, ← HBB.out]
        clear HVB HBB
        obtain ⟨hit, hhit⟩ : ∃ hit, hit = decide (x.node ∈ chainL t (k : Int)) := ⟨_, rfl⟩
        have HH := Lib.hid hhit
        clear hhit
        have BX := Lib.hid (BE.out.kept KB'.out (.inl (Nat.le_refl _)))
        go_region_held3 (fun w' => w'.cell? ⟨be, 0, none⟩ = some (.int .i64 x.node))
          (first | with_reducible exact bq0 BX.out.drew | with_reducible exact bq0 X6 | with_reducible exact bq0 X6.drew | with_reducible exact bq0 X7)
          (first | (go_at_call 18; (with_reducible refine (chain5_any t k _ VB.drew ((OT.out.kept KB'.out.drew (.inl (Nat.le_refl _))).rdW (by simp; omega))).mono ?_); rintro e w6 ⟨uc, rfl, oc, hk6⟩; have k6 : Kept 0 0 VB w6 := (Kept.refl 0 0 VB).drew.trans hk6; have X6 := BX.out.kept k6 (.inl (Nat.le_refl _)); clear hk6) | (go_at_call 17; (with_reducible refine (hasL_any (chainL t (k : Int)) x.node uc w6 (oc.rdW (Nat.le_refl _))).mono ?_); rintro e w7 ⟨rfl, hk7⟩; rw [← HH.out]; have k7 : Kept 0 0 VB w7 := k6.trans hk7; have X7 := BX.out.kept k7 (.inl (Nat.le_refl _)); have KS := Lib.hid k7; clear hk7))
        clear X6 X7 k6 k7 oc BX
        have CA := Lib.hid (BA2.out.kept KS.out (.inl (Nat.le_refl _)))
        have CB := Lib.hid (BB.out.kept KS.out (.inl (Nat.le_refl _)))
        have CX := Lib.hid ((BE.out.kept KB'.out (.inl (Nat.le_refl _))).kept KS.out (.inl (Nat.le_refl _)))
        have K7 := Lib.hid (KB.out.trans KS.out)
        have K7' := Lib.hid (KB'.out.trans KS.out)
        have z7 := KS.out.size
        clear KS BA2 BB KB KB'
        have HEr : Hid (errI t l2 k = N2.err) := by show _ = _; rw [HN2.out]; rfl
        have HCa : Hid (causeI t l2 k = N2.cause) := by show _ = _; rw [HN2.out]; rfl
        have FS : fstO t l2 k = (fstO t l k).or (if x.node ∈ chainL t (k : Int) then some x else none) := by rw [HL2.out]; exact fst_snoc QB.out.1 QB.out.2 k
        cases q1 : fstO t l k with
        | some y =>
          rw [q1, Option.some_or] at FS
          have e1 : b1 = true := by rw [HB1.out]; exact (fst_yes q1).2
          have e2 : b2 = true := by rw [HB2.out]; exact (fst_yes FS).2
          have e3 : N2 = N1 := by rw [HN1.out, HN2.out, (fst_yes q1).1, (fst_yes FS).1]
          have MD : Hid ((k : Int) ∈ doneL t l2) := (mem_done E2.out hlt).2 (fst_yes FS).2
          subst e1 e2 e3
          clear FS q1
          have ca0 := CA.out.cell 0
          have ca1 := CA.out.cell 1
          have ca2 := CA.out.cell 2
          have ca3 := CA.out.cell 3
          have cb0 := CB.out.cell 0
          have cb1 := CB.out.cell 1
          have cb2 := CB.out.cell 2
          have cb3 := CB.out.cell 3
          go_upto_region 18 with fail
          clear ca0 ca1 ca2 ca3 cb0 cb1 cb2 cb3
          have HD : Hid (decide ((k : Int) ∈ doneL t l2) = true) := by show _ = _; exact decide_eq_true MD.out
          go_region_held3 (fun w' => w'.cell? ⟨bb, 1, none⟩ = some (.int .i64 N2.err) ∧ w'.cell? ⟨bb, 2, none⟩ = some (.int .i64 N2.cause))
            (first | with_reducible exact ⟨bq1 CB.out.drew, bq2 CB.out.drew⟩ | with_reducible exact ⟨bq1 X8, bq2 X8⟩ | with_reducible exact ⟨bq1 X9, bq2 X9⟩ | with_reducible exact ⟨bq1 X10, bq2 X10⟩ | with_reducible exact ⟨bq1 X11, bq2 X11⟩)
            (first | (go_at_call 19; (with_reducible refine (implDone t l2 _ _ a0 a1 w7.drew (HS.out.kept K7.out.drew) ((OT.out.kept K7'.out.drew (.inl (Nat.le_refl _))).rdW (by simp; omega)) ((OZ.out.kept K7'.out.drew (.inl (Nat.le_refl _))).rdW (by simp; omega))).mono ?_); rintro e w8 ⟨ud, rfl, od, hk8⟩; have k8 : Kept 0 0 w7 w8 := (Kept.refl 0 0 w7).drew.trans hk8; have X8 := CB.out.kept k8 (.inl (Nat.le_refl _)); clear hk8) | (go_at_call 17; (with_reducible refine (hasL_any (doneL t l2) k ud w8 (od.rdW (Nat.le_refl _))).mono ?_); rintro e w9 ⟨rfl, hk9⟩; rw [HD.out]; have k9 : Kept 0 0 w7 w9 := k8.trans hk9; have X9 := CB.out.kept k9 (.inl (Nat.le_refl _)); have zz9 := k9.size; clear hk9) | (go_at_call 20; (with_reducible refine (implErr t l2 k _ _ a0 a1 w9 (HS.out.kept (K7.out.trans k9)) ((OT.out.kept (K7'.out.trans k9) (.inl (Nat.le_refl _))).rdW (by omega)) ((OZ.out.kept (K7'.out.trans k9) (.inl (Nat.le_refl _))).rdW (by omega))).mono ?_); rintro e w10 ⟨rfl, hk10⟩; rw [HEr.out]; have k10 : Kept 0 0 w7 w10 := k9.trans hk10; have X10 := CB.out.kept k10 (.inl (Nat.le_refl _)); have zz10 := k10.size; clear hk10) | (go_at_call 21; (with_reducible refine (implCause t l2 k _ _ a0 a1 w10 (HS.out.kept (K7.out.trans k10)) ((OT.out.kept (K7'.out.trans k10) (.inl (Nat.le_refl _))).rdW (by omega)) ((OZ.out.kept (K7'.out.trans k10) (.inl (Nat.le_refl _))).rdW (by omega)) (HY.out.kept (K7.out.trans k10))).mono ?_); rintro e w11 ⟨rfl, hk11⟩; rw [HCa.out]; have k11 : Kept 0 0 w7 w11 := k10.trans hk11; have X11 := CB.out.kept k11 (.inl (Nat.le_refl _)); have KS := Lib.hid k11; clear hk11))
          clear X8 X9 X10 X11 k8 k9 k10 k11 od
          have K11 := Lib.hid (K7.out.trans KS.out)
          have K11' := Lib.hid (K7'.out.trans KS.out)
          clear KS K7 K7' CB HD MD HEr HCa
          go_wp2
          go_roundw
          case rel => exact ⟨k + 1, by omega, by go_num, K11, K11'⟩
          case measure => simp [intOf]; omega
        | none =>
          rw [q1, Option.none_or] at FS
          have e1 : b1 = false := by rw [HB1.out]; exact (fst_no q1).2
          subst e1
          clear q1
          by_cases hx : x.node ∈ chainL t (k : Int)
          · rw [if_pos hx] at FS
            have e0 : hit = true := by rw [HH.out]; exact decide_eq_true hx
            have e2 : b2 = true := by rw [HB2.out]; exact (fst_yes FS).2
            have e3 : N2 = x := by rw [HN2.out, (fst_yes FS).1]
            have MD : Hid ((k : Int) ∈ doneL t l2) := (mem_done E2.out hlt).2 (fst_yes FS).2
            clear FS hx
            subst e0 e2 e3
            have cx0 := CX.out.cell 0
            have cx1 := CX.out.cell 1
            have cx2 := CX.out.cell 2
            have cx3 := CX.out.cell 3
            have cb0 := CB.out.cell 0
            have cb1 := CB.out.cell 1
            have cb2 := CB.out.cell 2
            have cb3 := CB.out.cell 3
            go_upto_region 18 with fail
            clear cx0 cx1 cx2 cx3 cb0 cb1 cb2 cb3
            have HD : Hid (decide ((k : Int) ∈ doneL t l2) = true) := by show _ = _; exact decide_eq_true MD.out
            go_region_held3 (fun w' => w'.cell? ⟨bb, 1, none⟩ = some (.int .i64 N2.err) ∧ w'.cell? ⟨bb, 2, none⟩ = some (.int .i64 N2.cause))
              (first | with_reducible exact ⟨bq1 CB.out.drew, bq2 CB.out.drew⟩ | with_reducible exact ⟨bq1 X8, bq2 X8⟩ | with_reducible exact ⟨bq1 X9, bq2 X9⟩ | with_reducible exact ⟨bq1 X10, bq2 X10⟩ | with_reducible exact ⟨bq1 X11, bq2 X11⟩)
              (first | (go_at_call 19; (with_reducible refine (implDone t l2 _ _ a0 a1 w7.drew (HS.out.kept K7.out.drew) ((OT.out.kept K7'.out.drew (.inl (Nat.le_refl _))).rdW (by simp; omega)) ((OZ.out.kept K7'.out.drew (.inl (Nat.le_refl _))).rdW (by simp; omega))).mono ?_); rintro e w8 ⟨ud, rfl, od, hk8⟩; have k8 : Kept 0 0 w7 w8 := (Kept.refl 0 0 w7).drew.trans hk8; have X8 := CB.out.kept k8 (.inl (Nat.le_refl _)); clear hk8) | (go_at_call 17; (with_reducible refine (hasL_any (doneL t l2) k ud w8 (od.rdW (Nat.le_refl _))).mono ?_); rintro e w9 ⟨rfl, hk9⟩; rw [HD.out]; have k9 : Kept 0 0 w7 w9 := k8.trans hk9; have X9 := CB.out.kept k9 (.inl (Nat.le_refl _)); have zz9 := k9.size; clear hk9) | (go_at_call 20; (with_reducible refine (implErr t l2 k _ _ a0 a1 w9 (HS.out.kept (K7.out.trans k9)) ((OT.out.kept (K7'.out.trans k9) (.inl (Nat.le_refl _))).rdW (by omega)) ((OZ.out.kept (K7'.out.trans k9) (.inl (Nat.le_refl _))).rdW (by omega))).mono ?_); rintro e w10 ⟨rfl, hk10⟩; rw [HEr.out]; have k10 : Kept 0 0 w7 w10 := k9.trans hk10; have X10 := CB.out.kept k10 (.inl (Nat.le_refl _)); have zz10 := k10.size; clear hk10) | (go_at_call 21; (with_reducible refine (implCause t l2 k _ _ a0 a1 w10 (HS.out.kept (K7.out.trans k10)) ((OT.out.kept (K7'.out.trans k10) (.inl (Nat.le_refl _))).rdW (by omega)) ((OZ.out.kept (K7'.out.trans k10) (.inl (Nat.le_refl _))).rdW (by omega)) (HY.out.kept (K7.out.trans k10))).mono ?_); rintro e w11 ⟨rfl, hk11⟩; rw [HCa.out]; have k11 : Kept 0 0 w7 w11 := k10.trans hk11; have X11 := CB.out.kept k11 (.inl (Nat.le_refl _)); have KS := Lib.hid k11; clear hk11))
            clear X8 X9 X10 X11 k8 k9 k10 k11 od
            have K11 := Lib.hid (K7.out.trans KS.out)
            have K11' := Lib.hid (K7'.out.trans KS.out)
            clear KS K7 K7' CB HD MD HEr HCa
            go_wp2
            go_roundw
            case rel => exact ⟨k + 1, by omega, by go_num, K11, K11'⟩
            case measure => simp [intOf]; omega
          · rw [if_neg hx] at FS
            have e0 : hit = false := by rw [HH.out]; exact decide_eq_false hx
            have e2 : b2 = false := by rw [HB2.out]; exact (fst_no FS).2
            have MD : Hid (¬ (k : Int) ∈ doneL t l2) := fun hm => by have := (mem_done E2.out hlt).1 hm; rw [(fst_no FS).2] at this; cases this
            subst e0 e2
            clear FS hx
            go_upto_region 18 with fail
            have HD : Hid (decide ((k : Int) ∈ doneL t l2) = false) := by show _ = _; exact decide_eq_false MD.out
            go_region_held3 (fun w' => w'.cell? ⟨bb, 1, none⟩ = some (.int .i64 N2.err) ∧ w'.cell? ⟨bb, 2, none⟩ = some (.int .i64 N2.cause))
              (first | with_reducible exact ⟨bq1 CB.out.drew, bq2 CB.out.drew⟩ | with_reducible exact ⟨bq1 X8, bq2 X8⟩ | with_reducible exact ⟨bq1 X9, bq2 X9⟩ | with_reducible exact ⟨bq1 X10, bq2 X10⟩ | with_reducible exact ⟨bq1 X11, bq2 X11⟩)
              (first | (go_at_call 19; (with_reducible refine (implDone t l2 _ _ a0 a1 w7.drew (HS.out.kept K7.out.drew) ((OT.out.kept K7'.out.drew (.inl (Nat.le_refl _))).rdW (by simp; omega)) ((OZ.out.kept K7'.out.drew (.inl (Nat.le_refl _))).rdW (by simp; omega))).mono ?_); rintro e w8 ⟨ud, rfl, od, hk8⟩; have k8 : Kept 0 0 w7 w8 := (Kept.refl 0 0 w7).drew.trans hk8; have X8 := CB.out.kept k8 (.inl (Nat.le_refl _)); clear hk8) | (go_at_call 17; (with_reducible refine (hasL_any (doneL t l2) k ud w8 (od.rdW (Nat.le_refl _))).mono ?_); rintro e w9 ⟨rfl, hk9⟩; rw [HD.out]; have k9 : Kept 0 0 w7 w9 := k8.trans hk9; have X9 := CB.out.kept k9 (.inl (Nat.le_refl _)); have zz9 := k9.size; clear hk9) | (go_at_call 20; (with_reducible refine (implErr t l2 k _ _ a0 a1 w9 (HS.out.kept (K7.out.trans k9)) ((OT.out.kept (K7'.out.trans k9) (.inl (Nat.le_refl _))).rdW (by omega)) ((OZ.out.kept (K7'.out.trans k9) (.inl (Nat.le_refl _))).rdW (by omega))).mono ?_); rintro e w10 ⟨rfl, hk10⟩; rw [HEr.out]; have k10 : Kept 0 0 w7 w10 := k9.trans hk10; have X10 := CB.out.kept k10 (.inl (Nat.le_refl _)); have zz10 := k10.size; clear hk10) | (go_at_call 21; (with_reducible refine (implCause t l2 k _ _ a0 a1 w10 (HS.out.kept (K7.out.trans k10)) ((OT.out.kept (K7'.out.trans k10) (.inl (Nat.le_refl _))).rdW (by omega)) ((OZ.out.kept (K7'.out.trans k10) (.inl (Nat.le_refl _))).rdW (by omega)) (HY.out.kept (K7.out.trans k10))).mono ?_); rintro e w11 ⟨rfl, hk11⟩; rw [HCa.out]; have k11 : Kept 0 0 w7 w11 := k10.trans hk11; have X11 := CB.out.kept k11 (.inl (Nat.le_refl _)); have KS := Lib.hid k11; clear hk11))
            clear X8 X9 X10 X11 k8 k9 k10 k11 od
            have K11 := Lib.hid (K7.out.trans KS.out)
            have K11' := Lib.hid (K7'.out.trans KS.out)
            clear KS K7 K7' CB HD MD HEr HCa
            go_wp2
            go_roundw
            case rel => exact ⟨k + 1, by omega, by go_num, K11, K11'⟩
            case measure => simp [intOf]; omega
      · have TW : Hid (letB t l2 x = false) := by show _ = _; rw [letB, HL2.out, not_twice QB.out.1 QB.out.2, Bool.and_false]
        have BX := Lib.hid (BE.out.kept K'.out (.inl (Nat.le_refl _)))
        have bb0 := BX.out.cell 0
        have bb1 := BX.out.cell 1
        have bb2 := BX.out.cell 2
        have bb3 := BX.out.cell 3
        go_wp2_with fail
        with_reducible refine (implLet t l2 x _ _ a0 a1 wr (HS.out.kept K.out) ((OT.out.kept K'.out (.inl (Nat.le_refl _))).rdW (by omega)) ((OZ.out.kept K'.out (.inl (Nat.le_refl _))).rdW (by omega))).mono ?_
        rintro e w4 ⟨y2, rfl, -, hk4⟩
        rw [TW.out]
        have K4 := Lib.hid (K.out.trans hk4)
        have K4' := Lib.hid (K'.out.trans hk4)
        have z4 := hk4.size
        clear hk4 bb0 bb1 bb2 bb3 BX
        go_wp2_with fail
        with_reducible refine (implEvents t l2 _ _ a0 a1 w4 (HS.out.kept K4.out) ((OT.out.kept K4'.out (.inl (Nat.le_refl _))).rdW (by omega)) ((OZ.out.kept K4'.out (.inl (Nat.le_refl _))).rdW (by omega))).mono ?_
        rintro e w5 ⟨rfl, hk5⟩
        rw [E2.out]
        have K5 := Lib.hid (K4.out.trans hk5)
        clear hk5
        go_wp2
        go_ret
        exact ⟨rfl, K5.out⟩
end Go.Proofs.YtgahjachkeoflaaDoor
