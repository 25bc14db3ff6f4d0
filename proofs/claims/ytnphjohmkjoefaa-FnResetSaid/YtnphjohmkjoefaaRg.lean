/- The draw of timers, a Seq and a Due; condition: the draw of timers and a Seq returns timers in new memory. -/
import Derived.Test.YtnphjohmkjoefaaRe
import Derived.Deep.RegionHeld3
namespace Go.Proofs.Ytnphjohmkjoefaa
open Go.RowKit Go.Sort

/-- What a draw of timers and a Seq leaves. -/
def DrawnMQ (g : Nat) (A : Option Addr) (c : Nat) (xs : List Int) (w : World) (e : Ending) (w' : World) : Prop :=
  ∃ u T q, e = .returned (.tuple #[u, .int .i64 q]) ∧ OwnM w' w.heap.size w'.heap.size u T ∧ T.list.length ≤ 1048576 ∧ Cur w' g A c xs ∧ Kept g (g + 1) w w'
def DrawsSeq : Prop := ∀ (xs : List Int) (A : Option Addr) (c g : Nat) (w : World), Cur w g A c xs → Calls Try.prog 13 #[.pointer (some ⟨g, 0, none⟩)] w (DrawnMQ g A c xs w)
set_option maxHeartbeats 3200000 in
theorem drawReset_any (hS : DrawsSeq) : DrawsM3 := by
  intro xs A c w h hx hl
  obtain ⟨W, hW⟩ : ∃ W, W = w.alloc (.cells #[.slice none 0 0, .slice none 0 0, .int .i64 0] 27) := ⟨_, rfl⟩
  have KW : Hid (Kept 0 0 w W) := by show Kept _ _ _ _; rw [hW]; exact Kept.alloc0 _ _
  have RW : Hid (Blk W w.heap.size 27 #[.slice none 0 0, .slice none 0 0, .int .i64 0]) := by show Blk _ _ _ _; rw [hW]; exact Blk.new _ _ _
  have ZW : Hid (W.heap.size = w.heap.size + 1) := by show _ = _; rw [hW]; simp
  have CN := Lib.hid (new_any xs A c W (h.kept (Nat.le_refl _) KW.out (.inl (Nat.le_refl _)) |>.wide KW.out.size) hx hl)
  have HS := Lib.hid hS
  have HW := Lib.hid hW
  clear hS h hx hW
  go_enter Try.func5, Try.ntmps5
  go_wp2_with fail
  rw [← HW.out]
  with_reducible refine CN.out.mono ?_
  rintro e w1 ⟨rfl, hc, hk⟩
  obtain ⟨g, hg⟩ : ∃ g, g = W.heap.size := ⟨_, rfl⟩
  rw [← hg] at hc ⊢
  have g1 : w.heap.size < g := by have := ZW.out; omega
  clear hg
  have CS := Lib.hid (HS.out xs A c g w1 hc)
  have R1 := Lib.hid (RW.out.kept hk (.inl (Nat.le_refl _)))
  have K1 := Lib.hid (KW.out.trans hk)
  have z1 := hk.size
  have gl := hc.lt
  clear hc hk CN HS HW
  go_wp2_with fail
  with_reducible refine CS.out.mono ?_
  rintro e w2 ⟨_, T, q, rfl, ⟨_, _, rfl, ⟨D1, d1, rfl, oa⟩, ⟨D2, d2, rfl, ob⟩⟩, tl, hc, hk⟩
  obtain ⟨V, hV⟩ : ∃ V, V = w2.alloc (.cells #[.slice D1 T.heap.length d1, .slice D2 T.list.length d2, .int .i64 T.next] 27) := ⟨_, rfl⟩
  have kV : Kept 0 0 w2 V := by rw [hV]; exact Kept.alloc0 _ _
  have BV : Hid (Blk V w2.heap.size 27 #[.slice D1 T.heap.length d1, .slice D2 T.list.length d2, .int .i64 T.next]) := by show Blk _ _ _ _; rw [hV]; exact Blk.new _ _ _
  have OV : Hid (OwnM V w1.heap.size w2.heap.size (.agg #[.slice D1 T.heap.length d1, .slice D2 T.list.length d2, .int .i64 T.next]) T) := OwnM.kept ⟨_, _, rfl, ⟨D1, d1, rfl, oa⟩, ⟨D2, d2, rfl, ob⟩⟩ kV (.inl (Nat.le_refl _))
  have CV := Lib.hid (hc.kept kV (.inl (Nat.le_refl _)))
  have RV := Lib.hid ((R1.out.kept hk (by omega)).kept kV (.inl (Nat.le_refl _)))
  have KV := Lib.hid ((K1.out.trans2 hk (.inr (by omega))).trans kV)
  have z2 := hk.size
  have zV := kV.size
  have CO := Lib.hid (once_any xs A c g 8 V CV.out (by omega) (by omega))
  have HV := Lib.hid hV
  clear oa ob hc hk hV kV CS R1 K1
  go_wp2_with fail
  rw [← HV.out]
  with_reducible refine CO.out.mono ?_
  rintro e w4 ⟨b, rfl, hc, hk⟩
  have C4 := Lib.hid hc
  have B4 := Lib.hid (BV.out.kept hk (by omega))
  have O4 := Lib.hid (OV.out.kept hk (.inr (.inr (by omega))))
  have R4 := Lib.hid (RV.out.kept hk (by omega))
  have K4 := Lib.hid (KV.out.trans2 hk (.inr (by omega)))
  have z4 := hk.size
  clear hc hk CO HV BV OV RV KV CV
  cases b
  · go_upto_region 5 with fail
    go_region_held3 (fun w' => w'.cell? ⟨w2.heap.size, 0, none⟩ = some (.slice D1 T.heap.length d1) ∧ w'.cell? ⟨w2.heap.size, 1, none⟩ = some (.slice D2 T.list.length d2) ∧ w'.cell? ⟨w2.heap.size, 2, none⟩ = some (.int .i64 T.next))
      (first | with_reducible exact ⟨bx0 B4.out.drew, bx1 B4.out.drew, bx2 B4.out.drew⟩ | with_reducible exact ⟨bx0 B5, bx1 B5, bx2 B5⟩ | with_reducible exact ⟨bx0 (((B5.far (by simp only; omega) _).far (by simp only; omega) _).far (by simp only; omega) _), bx1 (((B5.far (by simp only; omega) _).far (by simp only; omega) _).far (by simp only; omega) _), bx2 (((B5.far (by simp only; omega) _).far (by simp only; omega) _).far (by simp only; omega) _)⟩)
      ((go_at_call 16; ((with_reducible refine (below_any xs A c g 14 w4.drew (C4.out.kept ((Kept.refl 0 0 w4).drew) (.inl (Nat.le_refl _))) (by omega) (by omega)).mono ?_)); rintro e w5 ⟨du, rfl, -, hc, hk⟩; have k5 : Kept g (g + 1) w4 w5 := (Kept.refl g (g + 1) w4).drew.trans hk; have B5 := B4.out.kept k5 (by omega); have R5 := R4.out.kept k5 (by omega); have z5 := k5.size; have O5 := Lib.hid (O4.out.kept k5 (.inr (.inr (by omega)))); have r0 := bx0 R5; have r1 := bx1 R5; have r2 := bx2 R5; have f0 := R5.frozen 0; have f1 := R5.frozen 1; have f2 := R5.frozen 2; have K5 := Lib.hid (K4.out.trans2 k5 (.inr (by omega))); clear hc hk))
    go_wp2_with fail
    have BF := blk3 R5 (.slice D1 T.heap.length d1) (.slice D2 T.list.length d2) (.int .i64 T.next)
    have KF := kept3 w5 w.heap.size (.slice D1 T.heap.length d1) (.slice D2 T.list.length d2) (.int .i64 T.next)
    have F0 := bx0 BF
    have F1 := bx1 BF
    have F2 := bx2 BF
    have zF := KF.size
    refine bodyPost_ret (v := .tuple #[.agg #[.slice D1 T.heap.length d1, .slice D2 T.list.length d2, .int .i64 T.next], .int .i64 q, .int .i64 du]) (by simp [results, Try.results5, go_sem, F0, F1, F2]) rfl ⟨_, T, q, du, rfl, ?_, tl, K5.out.trans2 KF (.inr (Nat.le_refl _))⟩
    exact (O5.out.kept KF (.inr (.inr (by omega)))).wide (by omega) (by omega)
  · go_upto_region 4 with fail
    go_region_held3 (fun w' => w'.cell? ⟨w2.heap.size, 0, none⟩ = some (.slice D1 T.heap.length d1) ∧ w'.cell? ⟨w2.heap.size, 1, none⟩ = some (.slice D2 T.list.length d2) ∧ w'.cell? ⟨w2.heap.size, 2, none⟩ = some (.int .i64 T.next))
      (first | with_reducible exact ⟨bx0 B4.out.drew, bx1 B4.out.drew, bx2 B4.out.drew⟩ | with_reducible exact ⟨bx0 B5, bx1 B5, bx2 B5⟩ | with_reducible exact ⟨bx0 (((B5.far (by simp only; omega) _).far (by simp only; omega) _).far (by simp only; omega) _), bx1 (((B5.far (by simp only; omega) _).far (by simp only; omega) _).far (by simp only; omega) _), bx2 (((B5.far (by simp only; omega) _).far (by simp only; omega) _).far (by simp only; omega) _)⟩)
      ((go_at_call 15; ((with_reducible refine (draw_any xs A c g w4.drew (C4.out.kept ((Kept.refl 0 0 w4).drew) (.inl (Nat.le_refl _)))).mono ?_)); rintro e w5 ⟨du, rfl, -, hc, hk⟩; have k5 : Kept g (g + 1) w4 w5 := (Kept.refl g (g + 1) w4).drew.trans hk; have B5 := B4.out.kept k5 (by omega); have R5 := R4.out.kept k5 (by omega); have z5 := k5.size; have O5 := Lib.hid (O4.out.kept k5 (.inr (.inr (by omega)))); have r0 := bx0 R5; have r1 := bx1 R5; have r2 := bx2 R5; have f0 := R5.frozen 0; have f1 := R5.frozen 1; have f2 := R5.frozen 2; have K5 := Lib.hid (K4.out.trans2 k5 (.inr (by omega))); clear hc hk))
    go_wp2_with fail
    have BF := blk3 R5 (.slice D1 T.heap.length d1) (.slice D2 T.list.length d2) (.int .i64 T.next)
    have KF := kept3 w5 w.heap.size (.slice D1 T.heap.length d1) (.slice D2 T.list.length d2) (.int .i64 T.next)
    have F0 := bx0 BF
    have F1 := bx1 BF
    have F2 := bx2 BF
    have zF := KF.size
    refine bodyPost_ret (v := .tuple #[.agg #[.slice D1 T.heap.length d1, .slice D2 T.list.length d2, .int .i64 T.next], .int .i64 q, .int .i64 du]) (by simp [results, Try.results5, go_sem, F0, F1, F2]) rfl ⟨_, T, q, du, rfl, ?_, tl, K5.out.trans2 KF (.inr (Nat.le_refl _))⟩
    exact (O5.out.kept KF (.inr (.inr (by omega)))).wide (by omega) (by omega)
end Go.Proofs.Ytnphjohmkjoefaa
