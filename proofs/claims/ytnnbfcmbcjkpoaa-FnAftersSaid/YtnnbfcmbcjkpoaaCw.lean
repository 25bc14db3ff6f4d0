/- The program's AftersOk and NewAfters; no condition beyond that the afters can be read. -/
import Derived.Test.YtnnbfcmbcjkpoaaCv
namespace Go.Proofs.Ytnnbfcmbcjkpoaa
open Go.RowKit Go.Sort

set_option maxHeartbeats 1600000 in
theorem implAs : DoesAsB 19 := fun a v w h => by
  have HA := Lib.hid h
  obtain ⟨_, _, _, rfl, ⟨A1, c1, rfl, s1⟩, ⟨A2, c2, rfl, s2⟩, ⟨A3, c3, rfl, s3⟩⟩ := h
  clear s1 s2 s3
  obtain ⟨W, hW⟩ : ∃ W, W = w.alloc (.cells #[.slice A1 a.slots.ages.length c1, .slice A2 a.slots.used.length c2, .slice A3 a.list.length c3] 34) := ⟨_, rfl⟩
  have KW : Hid (Kept 0 0 w W) := by show Kept _ _ _ _; rw [hW]; exact Kept.alloc0 _ _
  have B0 : Hid (Blk W w.heap.size 34 #[.slice A1 a.slots.ages.length c1, .slice A2 a.slots.used.length c2, .slice A3 a.list.length c3]) := by show Blk _ _ _ _; rw [hW]; exact Blk.new _ _ _
  have HW := Lib.hid hW
  clear hW
  have CD := Lib.hid (deferringOf_any a _ W (HA.out.up KW.out))
  have b0 := ax0 B0.out
  have b1 := ax1 B0.out
  have b2 := ax2 B0.out
  go_enter Try.func19, Try.ntmps19
  go_upto_region 1 with fail
  rw [← HW.out]
  go_wp2_with fail
  with_reducible refine CD.out.mono ?_
  rintro e w1 ⟨p, rfl, hk, _⟩
  have K1 := Lib.hid (KW.out.trans hk)
  clear hk b0 b1 b2 B0 CD
  go_wp2
  go_ret
  exact ⟨rfl, K1.out⟩
set_option maxHeartbeats 1600000 in
theorem implNewAs : DoesAsN 13 := fun n w => by
  obtain ⟨W, hW⟩ : ∃ W, W = w.alloc (.cells #[.slice none 0 0, .slice none 0 0, .slice none 0 0] 34) := ⟨_, rfl⟩
  have KW : Hid (Kept 0 0 w W) := by show Kept _ _ _ _; rw [hW]; exact Kept.alloc0 _ _
  have B0 : Hid (Blk W w.heap.size 34 #[.slice none 0 0, .slice none 0 0, .slice none 0 0]) := by show Blk _ _ _ _; rw [hW]; exact Blk.new _ _ _
  have zW : w.heap.size + 1 ≤ W.heap.size := by rw [hW]; simp
  have HW := Lib.hid hW
  clear hW
  have CT := Lib.hid (implNew n W)
  go_enter Try.func13, Try.ntmps13
  go_upto_region 1 with fail
  rw [← HW.out]
  go_wp2_with fail
  with_reducible refine CT.out.mono ?_
  rintro e w1 ⟨_, rfl, ⟨_, _, rfl, ⟨D1, d1, rfl, o1⟩, ⟨D2, d2, rfl, o2⟩⟩, hk⟩
  have O1 := Lib.hid o1
  have O2 := Lib.hid o2
  have K1 := Lib.hid (KW.out.trans hk)
  have y1 := hk.size
  have C0 := Lib.hid (B0.out.kept hk (.inl (Nat.le_refl _)))
  clear o1 o2 hk CT B0 HW KW
  obtain ⟨V, hV⟩ : ∃ V, V = w1.alloc (.cells #[.slice D1 (newST n).ages.length d1, .slice D2 (newST n).used.length d2] 31) := ⟨_, rfl⟩
  have KV : Hid (Kept 0 0 w1 V) := by show Kept _ _ _ _; rw [hV]; exact Kept.alloc0 _ _
  have B1 : Hid (Blk V w1.heap.size 31 #[.slice D1 (newST n).ages.length d1, .slice D2 (newST n).used.length d2]) := by show Blk _ _ _ _; rw [hV]; exact Blk.new _ _ _
  have E0 := Lib.hid (C0.out.kept KV.out (.inl (Nat.le_refl _)))
  have P1 := Lib.hid (O1.out.kept KV.out (.inl (Nat.le_refl _)))
  have P2 := Lib.hid (O2.out.kept KV.out (.inl (Nat.le_refl _)))
  have K2 := Lib.hid (K1.out.trans KV.out)
  have y2 := KV.out.size
  have HV := Lib.hid hV
  clear hV
  go_upto_region 2 with fail
  rw [← HV.out]
  have b0 := B1.out.cell 0
  have b1 := B1.out.cell 1
  have c0 := E0.out.cell 0
  have c1 := E0.out.cell 1
  have c2 := E0.out.cell 2
  have f0 := E0.out.frozen 0
  have f1 := E0.out.frozen 1
  have f2 := E0.out.frozen 2
  simp only [List.getElem?_toArray, List.getElem?_cons_succ, List.getElem?_cons_zero] at b0 b1 c0 c1 c2
  obtain ⟨F, hF⟩ : ∃ F, F = ((V.setCell ⟨w.heap.size, 0, none⟩ (.slice D1 (newST n).ages.length d1)).setCell ⟨w.heap.size, 1, none⟩ (.slice D2 (newST n).used.length d2)).setCell ⟨w.heap.size, 2, none⟩ (.slice none 0 0) := ⟨_, rfl⟩
  have KF : Hid (Kept w.heap.size (w.heap.size + 1) V F) := by
    show Kept _ _ _ _
    rw [hF]
    exact (((Kept.refl w.heap.size (w.heap.size + 1) V).setCell (.inr ⟨Nat.le_refl _, Nat.lt_succ_self _⟩) _).setCell (.inr ⟨Nat.le_refl _, Nat.lt_succ_self _⟩) _).setCell (.inr ⟨Nat.le_refl _, Nat.lt_succ_self _⟩) _
  have BF : Hid (Blk F w.heap.size 34 #[.slice D1 (newST n).ages.length d1, .slice D2 (newST n).used.length d2, .slice none 0 0]) := by
    show Blk _ _ _ _
    rw [hF]
    exact ((E0.out.set_ 0 _).set_ 1 _).set_ 2 _
  have F0 := ax0 BF.out
  have F1 := ax1 BF.out
  have F2 := ax2 BF.out
  have HF := Lib.hid hF
  have FF := Lib.hid (And.intro F0 (And.intro F1 F2))
  clear hF F0 F1 F2
  go_wp2_with fail
  rw [← HF.out]
  obtain ⟨F0, F1, F2⟩ := FF.out
  have q1 := KF.out.size
  refine bodyPost_ret (v := .tuple #[.agg #[.slice D1 (newST n).ages.length d1, .slice D2 (newST n).used.length d2, .slice none 0 0], .bool (newSB n)]) (by simp [results, Try.results13, go_sem, F0, F1, F2]) rfl ⟨_, rfl, ⟨_, _, _, rfl, ⟨D1, d1, rfl, ?_⟩, ⟨D2, d2, rfl, ?_⟩, OwnAf.nil _ _ _⟩, ?_⟩
  · exact (P1.out.kept KF.out (.inr (.inr (by omega)))).wide (by omega) (by omega)
  · exact (P2.out.kept KF.out (.inr (.inr (by omega)))).wide (by omega) (by omega)
  · exact K2.out.trans2 KF.out (.inr (by omega))
end Go.Proofs.Ytnnbfcmbcjkpoaa
