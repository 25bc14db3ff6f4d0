/- The program's QueuedBy; no condition beyond that the afters can be read. -/
import Derived.Test.YtnnbfcmbcjkpoaaCw
import Derived.Test.YtnnbfcmbcjkpoaaCi
namespace Go.Proofs.Ytnnbfcmbcjkpoaa
open Go.RowKit Go.Sort

/-- Valid afters' functions in memory differ by their handles, and name nodes from 0 on. -/
theorem dfr_facts {a : Afs} (o : AftersP a) {ps : List (Aft × Nat)} (he : ps.map Prod.fst = a.list) : (ps.map fun p => hnd p.1).Nodup ∧ (∀ p ∈ ps, 0 ≤ p.1.node) ∧ ps.length = a.list.length := by
  have hl : ps.length = a.list.length := by simpa using congrArg List.length he
  have hat : ∀ i (hi : i < ps.length) (hj : i < a.list.length), ps[i].1 = a.list[i] := by
    intro i hi hj
    have := congrArg (fun l => l[i]?) he
    simp only [List.getElem?_map, List.getElem?_eq_getElem hi, List.getElem?_eq_getElem hj, Option.map_some] at this
    injection this
  refine ⟨?_, ?_, hl⟩
  · rw [List.nodup_iff_pairwise_ne, List.pairwise_iff_getElem]
    intro i j hi hj hij e
    simp only [List.length_map] at hi hj
    simp only [List.getElem_map] at e
    rw [hat i hi (by omega), hat j hj (by omega)] at e
    have h1 := o.diff j (by omega) i hij
    rw [sameH_hnd.2 e] at h1
    cases h1
  · intro p hp
    obtain ⟨i, hi, rfl⟩ := List.getElem_of_mem hp
    rw [hat i hi (by omega)]
    have := o.each i (by omega)
    rw [aftB_eq] at this
    simp [isAfB, inR] at this
    omega

set_option maxHeartbeats 6400000 in
set_option maxRecDepth 100000 in
theorem implQueue : DoesAsQ 14 := fun a node v w h => by
  have HA := Lib.hid h
  obtain ⟨_, _, _, rfl, ⟨A1, c1, rfl, s1⟩, ⟨A2, c2, rfl, s2⟩, ⟨A3, c3, rfl, s3⟩⟩ := h
  clear s1 s2 s3
  obtain ⟨W, hW⟩ : ∃ W, W = (w.alloc (.cells #[.slice A1 a.slots.ages.length c1, .slice A2 a.slots.used.length c2, .slice A3 a.list.length c3] 34)).alloc (.cells #[.slice none 0 0, .slice none 0 0, .slice none 0 0] 34) := ⟨_, rfl⟩
  have KW : Hid (Kept 0 0 w W) := by show Kept _ _ _ _; rw [hW]; exact (Kept.alloc0 _ _).alloc _
  have B0 : Hid (Blk W w.heap.size 34 #[.slice A1 a.slots.ages.length c1, .slice A2 a.slots.used.length c2, .slice A3 a.list.length c3]) := by show Blk _ _ _ _; rw [hW]; exact (Blk.new _ _ _).alloc _
  have R0 : Hid (Blk W (w.heap.size + 1) 34 #[.slice none 0 0, .slice none 0 0, .slice none 0 0]) := by
    show Blk _ _ _ _
    rw [hW]
    have := Blk.new (w.alloc (.cells #[.slice A1 a.slots.ages.length c1, .slice A2 a.slots.used.length c2, .slice A3 a.list.length c3] 34)) 34 #[.slice none 0 0, .slice none 0 0, .slice none 0 0]
    simpa using this
  have zW : w.heap.size + 2 ≤ W.heap.size := by rw [hW]; simp
  have HW := Lib.hid hW
  have b0 := ax0 B0.out
  have b1 := ax1 B0.out
  have b2 := ax2 B0.out
  clear hW
  have CO := Lib.hid (deferringOf_any a _ W (HA.out.up KW.out))
  go_enter Try.func14, Try.ntmps14
  go_upto_region 1 with fail
  rw [← HW.out]
  go_wp2_with fail
  clear b0 b1 b2
  with_reducible refine CO.out.mono ?_
  rintro e w1 ⟨p, rfl, hk, hdf⟩
  have K1 := Lib.hid (KW.out.trans hk)
  have B1 := Lib.hid (B0.out.kept hk (.inl (Nat.le_refl _)))
  have R1 := Lib.hid (R0.out.kept hk (.inl (Nat.le_refl _)))
  have z1 := hk.size
  have HDF := Lib.hid hdf
  clear hk hdf CO B0 R0 KW HW
  cases q1 : aftersB a
  · have E : Hid (queueA a node = asZ) := by show _ = _; simp [queueA, q1]
    have r0 := ax0 R1.out
    have f0 := R1.out.frozen 0
    have r1 := ax1 R1.out
    have f1 := R1.out.frozen 1
    have r2 := ax2 R1.out
    have f2 := R1.out.frozen 2
    have BF := blkA R1.out (.slice none 0 0) (.slice none 0 0) (.slice none 0 0)
    have F0 := ax0 BF
    have F1 := ax1 BF
    have F2 := ax2 BF
    have KF := Lib.hid (keptA w1 (w.heap.size + 1) (.slice none 0 0) (.slice none 0 0) (.slice none 0 0))
    clear q1 BF
    go_wp2_with fail
    refine bodyPost_ret (v := .agg #[.slice none 0 0, .slice none 0 0, .slice none 0 0]) (by simp [results, Try.results14, go_sem, F0, F1, F2]) rfl ⟨_, rfl, by rw [E.out]; exact OwnAs.asZ _ _ _, K1.out.trans2 KF.out (.inr (by omega))⟩
  have E : Hid (queueA a node = ⟨a.slots, a.list.map (queue1 node)⟩) := by show _ = _; simp [queueA, q1]
  obtain ⟨g, m, D1, d1, D2, d2, D3, d3, ps, rfl, hd, hpe⟩ := HDF.out q1
  obtain ⟨hnd0, hnode, hpl⟩ := dfr_facts (aftersB_true.1 q1) hpe
  have l64 := (aftersB_true.1 q1).len
  obtain ⟨hs, hhs⟩ : ∃ hs, hs = ps.map fun p => hnd p.1 := ⟨_, rfl⟩
  rw [← hhs] at hd hnd0
  have HL : Hid (hs.length = a.list.length) := by show _ = _; rw [hhs]; simpa using hpl
  have HD0 := Lib.hid hd
  have HS := Lib.hid hhs
  have HPE := Lib.hid hpe
  have HND := Lib.hid hnd0
  have HNO := Lib.hid hnode
  have g2 : w1.cell? ⟨g, 2, none⟩ = some (.slice D3 a.list.length d3) := by have := hd.blk.cell 2; rw [HL.out] at this; exact this
  have zg := hd.blk.lt
  clear q1 HDF hd hpe hnd0 hnode hhs hpl
  go_wp2_with fail
  go_loopw [22] (fun i wr => ∃ (n : Nat) (qs : List (Aft × Nat)), n ≤ a.list.length ∧ i = .int .i64 n ∧ Hid (qs.map Prod.fst = qPart node a.list n) ∧ Hid (hs = qs.map fun p => hnd p.1) ∧ Hid (Dfr wr W.heap.size g m D1 d1 D2 d2 D3 d3 a.slots hs qs) ∧ Hid (Below W.heap.size w1 wr)) (fun i _ => a.list.length - (intOf i).toNat)
  case atStart => exact ⟨0, ps, Nat.zero_le _, rfl, Lib.hid (by rw [qPart_zero]; exact HPE.out), HS, HD0, Lib.hid (Below.refl _ _)⟩
  case round =>
    obtain ⟨n, qs, hn, rfl, HQ, HH, HD, HB⟩ := hrel
    by_cases hlt : n < a.list.length
    · have i1 : (n : Int) < (a.list.length : Int) := by omega
      have ql : qs.length = a.list.length := by have := congrArg List.length HQ.out; rw [qPart_len _ _ _ hn] at this; simpa using this
      have hq : n < qs.length := by omega
      have eq1 : qs[n].1 = a.list[n] := by
        have := congrArg (fun l => l[n]?) HQ.out
        simp only [List.getElem?_map, List.getElem?_eq_getElem hq, Option.map_some] at this
        rw [List.getElem?_eq_getElem (by rw [qPart_len _ _ _ hn]; exact hlt), qPart_at _ _ _ hlt] at this
        injection this
      have eh : hs[n]'(by rw [HL.out]; exact hlt) = hnd a.list[n] := by
        have := congrArg (fun l => l[n]?) HH.out
        simp only [List.getElem?_map, List.getElem?_eq_getElem hq, Option.map_some] at this
        rw [List.getElem?_eq_getElem (by rw [HL.out]; exact hlt), eq1] at this
        injection this
      obtain ⟨ad, ea, _, k0, k1⟩ := ((OwnZ.rd (R := hdR) HD.out.row).2).hd (k := n) (by rw [HL.out]; exact hlt)
      subst ea
      rw [eh] at k0 k1
      obtain ⟨x, hx⟩ : ∃ x, x = a.list[n] := ⟨_, rfl⟩
      have hat : AtH qs (hnd x) n := by have := AtH.of_nodup (ps := qs) (by rw [← HH.out]; exact HND.out) hq; rwa [eq1, ← hx] at this
      rw [← hx] at eq1 k0 k1
      simp only [hnd] at k0 k1
      have EQ1 := Lib.hid eq1
      have HX := Lib.hid hx
      have HAT := Lib.hid hat
      have HQL := Lib.hid hq
      obtain ⟨bb, hbb⟩ : ∃ bb, bb = qs[n].2 := ⟨_, rfl⟩
      have HBB := Lib.hid hbb
      obtain ⟨V, hV⟩ : ∃ V, V = wr.alloc (.cells #[.int .i64 x.slot, .int .i64 x.age] 40) := ⟨_, rfl⟩
      have KV : Hid (Kept 0 0 wr V) := by show Kept _ _ _ _; rw [hV]; exact Kept.alloc0 _ _
      have BV : Hid (Blk V wr.heap.size 40 #[.int .i64 x.slot, .int .i64 x.age]) := by show Blk _ _ _ _; rw [hV]; exact Blk.new _ _ _
      have DV := Lib.hid (HD.out.kept KV.out)
      have HV := Lib.hid hV
      have LK : (Instr.lookup 75 (.map (some m)) (.agg #[.int .i64 x.slot, .int .i64 x.age]) false).run Try.prog V.drew = .ok (.func (.func 69) #[] #[.pointer (some ⟨bb, 0, none⟩)]) V.drew := by
        have := (DV.out.map.kept (Kept.refl 0 0 V).drew (.inl (Nat.le_refl _))).look_at hat.key (by rw [kvOf_len]; exact hq)
        refine (show _ = _ from this).trans ?_
        simp [kvOf, clo, hbb]
      have BB : Hid (Blk V.drew bb 42 (afC x)) := by show Blk _ _ _ _; rw [hbb, ← eq1]; exact (DV.out.box _ (List.getElem_mem hq)).2.drew
      have v0 : V.cell? ⟨wr.heap.size, 0, none⟩ = some (.int .i64 x.slot) := BV.out.cell 0
      have v1 : V.cell? ⟨wr.heap.size, 1, none⟩ = some (.int .i64 x.age) := BV.out.cell 1
      have v3 : V.cell? ⟨g, 3, none⟩ = some (.map (some m)) := DV.out.blk.cell 3
      have vg := DV.out.blk.lt
      have vz := BV.out.lt
      have zB := HB.out.size
      have zK := KV.out.size
      clear hV hbb hat hx eq1 eh ql
      go_upto_region 7 with fail
      rw [← HV.out]
      clear HV k0 k1
      by_cases hnn : x.node = node
      · have CC := Lib.hid (clo_yes x bb V.drew BB.out)
        rw [hnn] at CC
        have EQ : Hid (queue1 node x = ⟨x.slot, x.age, x.node, x.func, true⟩) := by show _ = _; simp [queue1, hnn]
        have HN := Lib.hid hnn
        clear hnn
        go_region_with ((with_reducible refine CC.out.mono ?_); rintro e w3 ⟨rfl, hk3, hb3⟩)
        all_goals (
          have hk5 : Kept qs[n].2 (qs[n].2 + 1) V.drew w3 := by rw [← HBB.out]; exact hk3
          have hb5 : Blk w3 qs[n].2 42 (afC ⟨x.slot, x.age, x.node, x.func, true⟩) := by rw [← HBB.out, HN.out]; exact hb3
          have DM := Dfr.mark (DV.out.kept (Kept.refl 0 0 V).drew) hq (x := ⟨x.slot, x.age, x.node, x.func, true⟩) (by rw [EQ1.out]; rfl) hk5 hb5
          have D2 := Lib.hid DM
          have Q2 : Hid ((qs.set n (⟨x.slot, x.age, x.node, x.func, true⟩, qs[n].2)).map Prod.fst = qPart node a.list (n + 1)) := by
            show _ = _
            rw [List.map_set, HQ.out, ← qPart_succ node a.list n hlt, ← HX.out, EQ.out]
          have H2 : Hid (hs = (qs.set n (⟨x.slot, x.age, x.node, x.func, true⟩, qs[n].2)).map fun p => hnd p.1) := by
            show _ = _
            rw [List.map_set, ← HH.out]
            have : hnd (⟨x.slot, x.age, x.node, x.func, true⟩ : Aft) = hs[n]'(by rw [HL.out]; exact hlt) := by
              have h1 := congrArg (fun l => l[n]?) HH.out
              simp only [List.getElem?_map, List.getElem?_eq_getElem hq, Option.map_some] at h1
              rw [List.getElem?_eq_getElem (by rw [HL.out]; exact hlt), EQ1.out] at h1
              injection h1 with h1
              rw [h1]; rfl
            rw [this, List.set_getElem_self]
          have B2 : Hid (Below W.heap.size w1 w3) := (HB.out.trans ((KV.out.drew).below (by omega) (.inl (Nat.le_refl _)))).trans (hk3.below (B := W.heap.size) (by show W.heap.size ≤ V.heap.size; omega) (.inr (by rw [HBB.out]; exact (DV.out.box _ (List.getElem_mem hq)).1)))
          clear DM hk3 hb3 hk5 hb5
          go_wp2_with fail
          go_roundw)
        all_goals first
          | exact ⟨n + 1, _, by omega, by go_num, Q2, H2, D2, B2⟩
          | (simp [intOf]; omega)
      · have CC := Lib.hid (clo_no x bb node V.drew BB.out hnn)
        have EQ := Lib.hid (qPart_same node a.list n hlt (by rw [← HX.out]; exact hnn))
        clear hnn
        go_region_with ((with_reducible refine CC.out.mono ?_); rintro e w3 ⟨rfl, hk3⟩)
        all_goals (
          have D2 := Lib.hid (DV.out.kept ((Kept.refl 0 0 V).drew.trans hk3))
          have Q2 : Hid (qs.map Prod.fst = qPart node a.list (n + 1)) := by show _ = _; rw [EQ.out]; exact HQ.out
          have B2 : Hid (Below W.heap.size w1 w3) := HB.out.trans (((KV.out.drew).trans hk3).below (by omega) (.inl (Nat.le_refl _)))
          clear hk3
          go_wp2_with fail
          go_roundw)
        all_goals first
          | exact ⟨n + 1, qs, by omega, by go_num, Q2, HH, D2, B2⟩
          | (simp [intOf]; omega)
    · have hnn : n = a.list.length := by omega
      have EQ : Hid (qs.map Prod.fst = a.list.map (queue1 node)) := by show _ = _; rw [HQ.out, qPart_all _ _ _ (by omega)]
      have ql : qs.length = a.list.length := by have := congrArg List.length HQ.out; rw [qPart_len _ _ _ hn] at this; simpa using this
      have hno : ∀ p ∈ qs, 0 ≤ p.1.node := by
        intro p hp
        have h1 : p.1 ∈ a.list.map (queue1 node) := by rw [← EQ.out]; exact List.mem_map_of_mem hp
        obtain ⟨y, hy, e⟩ := List.mem_map.1 h1
        rw [← HPE.out] at hy
        obtain ⟨r, hr, rfl⟩ := List.mem_map.1 hy
        have h2 := HNO.out r hr
        rw [← e]
        unfold queue1
        split <;> exact h2
      have CS := Lib.hid (shown_any (by rw [← HH.out]; exact HD.out) (by rw [← HH.out]; exact HND.out) hno (by omega) (by have := HB.out.size; omega))
      have RR := Lib.hid (R1.out.below HB.out (by omega))
      have zB := HB.out.size
      have i1 : ¬ (n : Int) < (a.list.length : Int) := by omega
      rw [EQ.out] at CS
      obtain ⟨ys, hys⟩ : ∃ ys, ys = a.list.map (queue1 node) := ⟨_, rfl⟩
      rw [← hys] at CS
      have EY : Hid (queueA a node = ⟨a.slots, ys⟩) := by show _ = _; rw [E.out, hys]
      clear hys
      have KR : Hid (Kept 0 0 w wr) := K1.out.trans2 (Kept.of_below_from HB.out) (.inr (by omega))
      clear hno ql
      go_wp2_with fail
      with_reducible refine CS.out.mono ?_
      rintro e w4 ⟨_, rfl, ⟨_, _, _, rfl, ⟨E1, k1, rfl, o1⟩, ⟨E2, k2, rfl, o2⟩, ⟨E3, k3, rfl, o3⟩⟩, hk4⟩
      have R4 := Lib.hid (RR.out.kept hk4 (.inl (Nat.le_refl _)))
      have r0 := ax0 R4.out
      have f0 := R4.out.frozen 0
      have r1 := ax1 R4.out
      have f1 := R4.out.frozen 1
      have r2 := ax2 R4.out
      have f2 := R4.out.frozen 2
      obtain ⟨F, hF⟩ : ∃ F, F = ((w4.setCell ⟨w.heap.size + 1, 0, none⟩ (.slice E1 a.slots.ages.length k1)).setCell ⟨w.heap.size + 1, 1, none⟩ (.slice E2 a.slots.used.length k2)).setCell ⟨w.heap.size + 1, 2, none⟩ (.slice E3 ys.length k3) := ⟨_, rfl⟩
      have BF : Blk F (w.heap.size + 1) 34 #[.slice E1 a.slots.ages.length k1, .slice E2 a.slots.used.length k2, .slice E3 ys.length k3] := by rw [hF]; exact blkA R4.out _ _ _
      have kF : Kept (w.heap.size + 1) (w.heap.size + 1 + 1) w4 F := by rw [hF]; exact keptA w4 (w.heap.size + 1) _ _ _
      have zF := kF.size
      have RES : Hid (OwnAs F w.heap.size F.heap.size (.agg #[.slice E1 a.slots.ages.length k1, .slice E2 a.slots.used.length k2, .slice E3 ys.length k3]) (queueA a node)) := by
        show OwnAs _ _ _ _ _
        rw [EY.out]
        refine ⟨_, _, _, rfl, ⟨E1, k1, rfl, ?_⟩, ⟨E2, k2, rfl, ?_⟩, ⟨E3, k3, rfl, ?_⟩⟩
        · exact (o1.kept kF (.inr (.inr (by omega)))).wide (by omega) (by omega)
        · exact (o2.kept kF (.inr (.inr (by omega)))).wide (by omega) (by omega)
        · exact (o3.kept kF (.inr (.inr (by omega)))).wide (by omega) (by omega)
      have KF : Hid (Kept 0 0 w F) := (KR.out.trans hk4).trans2 kF (.inr (by omega))
      have FF := Lib.hid (And.intro (ax0 BF) (And.intro (ax1 BF) (ax2 BF)))
      have HF := Lib.hid hF
      clear hF BF kF o1 o2 o3 hk4
      go_wp2_with fail
      rw [← HF.out]
      obtain ⟨F0, F1, F2⟩ := FF.out
      refine bodyPost_ret (v := .agg #[.slice E1 a.slots.ages.length k1, .slice E2 a.slots.used.length k2, .slice E3 ys.length k3]) (by simp only [results, Try.results14]; simp [go_sem, F0, F1, F2]) rfl ⟨_, rfl, RES.out, KF.out⟩
end Go.Proofs.Ytnnbfcmbcjkpoaa
