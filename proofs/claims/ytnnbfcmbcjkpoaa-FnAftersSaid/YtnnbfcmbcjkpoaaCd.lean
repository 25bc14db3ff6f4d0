/- The reference's copy of Afters; condition: the afters can be read and their slots are valid. -/
import Derived.Test.YtnnbfcmbcjkpoaaNb
import Derived.Test.YtnnbfcmbcjkpoaaCc
import Derived.Deep.RegionHeld3
namespace Go.Proofs.Ytnnbfcmbcjkpoaa
open Go.RowKit Go.Sort

section
variable {w : World} {g : Nat} {ty : TypeId} {a b c : Value}
theorem ax0 (h : Blk w g ty #[a, b, c]) : w.cell? ⟨g, 0, none⟩ = some a := h.cell 0
theorem ax1 (h : Blk w g ty #[a, b, c]) : w.cell? ⟨g, 1, none⟩ = some b := h.cell 1
theorem ax2 (h : Blk w g ty #[a, b, c]) : w.cell? ⟨g, 2, none⟩ = some c := h.cell 2
end

set_option maxHeartbeats 6400000 in
set_option maxRecDepth 100000 in
theorem copy8_any (t : Afs) (v : Value) (w : World) (h : RdAs w w.heap.size v t) (hb : slB t.slots = true) (hn : t.list.length ≤ 64) :
    Calls Try.prog 59 #[v] w fun e w' => ∃ u, e = .returned u ∧ OwnAs w' w.heap.size w'.heap.size u t ∧ Kept 0 0 w w' := by
  have HA := Lib.hid h
  obtain ⟨_, _, _, rfl, ⟨A1, c1, rfl, s1⟩, ⟨A2, c2, rfl, s2⟩, ⟨A3, c3, rfl, s3⟩⟩ := h
  obtain ⟨W, hW⟩ : ∃ W, W = (w.alloc (.cells #[.slice A1 t.slots.ages.length c1, .slice A2 t.slots.used.length c2, .slice A3 t.list.length c3] 34)).alloc (.cells #[.slice none 0 0, .slice none 0 0, .slice none 0 0] 34) := ⟨_, rfl⟩
  have KV : Hid (Kept 0 0 w W) := by show Kept _ _ _ _; rw [hW]; exact (Kept.alloc0 _ _).alloc _
  have B0 : Hid (Blk W w.heap.size 34 #[.slice A1 t.slots.ages.length c1, .slice A2 t.slots.used.length c2, .slice A3 t.list.length c3]) := by show Blk _ _ _ _; rw [hW]; exact (Blk.new _ _ _).alloc _
  have R0 : Hid (Blk W (w.heap.size + 1) 34 #[.slice none 0 0, .slice none 0 0, .slice none 0 0]) := by
    show Blk _ _ _ _
    rw [hW]
    have := Blk.new (w.alloc (.cells #[.slice A1 t.slots.ages.length c1, .slice A2 t.slots.used.length c2, .slice A3 t.list.length c3] 34)) 34 #[.slice none 0 0, .slice none 0 0, .slice none 0 0]
    simpa using this
  have zW : w.heap.size + 2 ≤ W.heap.size := by rw [hW]; simp
  have RS : Hid (∀ X, Kept 0 0 w X → RdSl X X.heap.size (.agg #[.slice A1 t.slots.ages.length c1, .slice A2 t.slots.used.length c2]) t.slots) := fun X hX => (HA.out.up hX).sl.1
  have SL := Lib.hid (s3.kept (Nat.le_refl _) KV.out (.inl (Nat.le_refl _)))
  have HT := Lib.hid afSlice
  have HW := Lib.hid hW
  clear s1 s2 s3 hW
  go_enter Try.func59, Try.ntmps59
  go_wp2_with fail
  rw [← HW.out]
  go_region_held3 (fun w' => w'.cell? ⟨w.heap.size, 0, none⟩ = some (.slice A1 t.slots.ages.length c1) ∧ w'.cell? ⟨w.heap.size, 1, none⟩ = some (.slice A2 t.slots.used.length c2) ∧ w'.cell? ⟨w.heap.size, 2, none⟩ = some (.slice A3 t.list.length c3))
    (first | with_reducible exact ⟨ax0 B0.out.drew, ax1 B0.out.drew, ax2 B0.out.drew⟩ | with_reducible exact ⟨ax0 (B0.out.alloc (.cells #[] 42)).drew, ax1 (B0.out.alloc (.cells #[] 42)).drew, ax2 (B0.out.alloc (.cells #[] 42)).drew⟩ | with_reducible exact ⟨ax0 B1, ax1 B1, ax2 B1⟩ | with_reducible exact ⟨ax0 (B1.alloc (.cells #[] 42)), ax1 (B1.alloc (.cells #[] 42)), ax2 (B1.alloc (.cells #[] 42))⟩ | with_reducible exact ⟨ax0 B2, ax1 B2, ax2 B2⟩ | with_reducible exact ⟨ax0 (((B2.far (by first | omega | (simp; done) | (simp; omega)) _).far (by first | omega | (simp; done) | (simp; omega)) _).far (by first | omega | (simp; done) | (simp; omega)) _), ax1 (((B2.far (by first | omega | (simp; done) | (simp; omega)) _).far (by first | omega | (simp; done) | (simp; omega)) _).far (by first | omega | (simp; done) | (simp; omega)) _), ax2 (((B2.far (by first | omega | (simp; done) | (simp; omega)) _).far (by first | omega | (simp; done) | (simp; omega)) _).far (by first | omega | (simp; done) | (simp; omega)) _)⟩)
    (first
      | (go_at_call 81; ((with_reducible refine (specCopyS t.slots _ (W.drew) (RS.out _ (KV.out.trans (Kept.refl 0 0 W).drew)) hb).mono ?_)); rintro e w1 ⟨_, rfl, ⟨_, _, rfl, ⟨D1, d1, rfl, o1⟩, ⟨D2, d2, rfl, o2⟩⟩, hk⟩; have k1 : Kept 0 0 W w1 := (Kept.refl 0 0 W).drew.trans hk; have z1 := k1.size; have z1' := hk.size; have B1 := B0.out.kept k1 (.inl (Nat.le_refl _)); have R1 := R0.out.kept k1 (.inl (Nat.le_refl _)); clear hk)
      | (go_at_call 81; ((with_reducible refine (specCopyS t.slots _ ((W.alloc (.cells #[] 42)).drew) (RS.out _ (KV.out.trans (Kept.alloc0 W (.cells #[] 42)).drew)) hb).mono ?_)); rintro e w1 ⟨_, rfl, ⟨_, _, rfl, ⟨D1, d1, rfl, o1⟩, ⟨D2, d2, rfl, o2⟩⟩, hk⟩; have k1 : Kept 0 0 W w1 := (Kept.alloc0 W (.cells #[] 42)).drew.trans hk; have z1 := k1.size; have z1' := hk.size; have X1 : Blk w1 W.heap.size 42 #[] := (Blk.new W 42 #[]).drew.kept hk (.inl (Nat.le_refl _)); have x1 := X1.lt; have y1 : W.heap.size + 1 ≤ ((W.alloc (.cells #[] 42)).drew).heap.size := (by simp); have B1 := B0.out.kept k1 (.inl (Nat.le_refl _)); have R1 := R0.out.kept k1 (.inl (Nat.le_refl _)); clear hk)
      | (have _t := X1; refine step_app (R := afR) rfl (.tmp 6) (.tmp 8) rfl HT.out W.heap.size (some ⟨W.heap.size, 0, none⟩) 0 [] rfl (own_emptyZ X1 (Nat.le_refl _)) w.heap.size A3 c3 t.list rfl (by exact SL.out.rd.kept (by omega) k1 (.inl (Nat.le_refl _))) (by simp [maxLen]; omega) (by simp; omega) z1 ?_; intro D3 d3 w2 hown hgrow hat; have c2' : Kept W.heap.size (W.heap.size + 1) w1 w2 := kept_of_row hgrow; have k2 : Kept 0 0 W w2 := k1.trans2 c2' (.inr (Nat.le_refl _)); have z2 := c2'.size; have O3 := hown; have P1 := o1.kept c2' (.inr (.inr (by omega))); have P2 := o2.kept c2' (.inr (.inr (by omega))); have B2 := B1.kept c2' (.inr (.inl (by omega))); have R2 := R1.kept c2' (.inr (.inl (by omega))); have r0 := ax0 R2; have r1 := ax1 R2; have r2 := ax2 R2; have f0 := R2.frozen 0; have f1 := R2.frozen 1; have f2 := R2.frozen 2; clear hown hgrow hat)
      | (refine step_app (R := afR) rfl (.tmp 6) (.tmp 8) rfl HT.out W.heap.size (some ⟨w1.heap.size, 0, none⟩) 0 [] rfl (own_emptyZ (Blk.new w1 42 #[]) z1) w.heap.size A3 c3 t.list rfl (by exact SL.out.rd.kept (by omega) (k1.alloc (.cells #[] 42)) (.inl (Nat.le_refl _))) (by simp [maxLen]; omega) (by simp; omega) (by simp; omega) ?_; intro D3 d3 w2 hown hgrow hat; have c2' : Kept w1.heap.size (w1.heap.size + 1) (w1.alloc (.cells #[] 42)) w2 := kept_of_row hgrow; have k2 : Kept 0 0 W w2 := (k1.alloc (.cells #[] 42)).trans2 c2' (.inr z1); have z2 := c2'.size; have O3 := hown; have P1 := (o1.kept (Kept.alloc0 w1 (.cells #[] 42)) (.inl (Nat.le_refl _))).kept c2' (.inr (.inl (Nat.le_refl _))); have P2 := (o2.kept (Kept.alloc0 w1 (.cells #[] 42)) (.inl (Nat.le_refl _))).kept c2' (.inr (.inl (Nat.le_refl _))); have B2 := (B1.alloc (.cells #[] 42)).kept c2' (.inr (.inl (by omega))); have R2 := (R1.alloc (.cells #[] 42)).kept c2' (.inr (.inl (by omega))); have r0 := ax0 R2; have r1 := ax1 R2; have r2 := ax2 R2; have f0 := R2.frozen 0; have f1 := R2.frozen 1; have f2 := R2.frozen 2; have z2' : w1.heap.size ≤ w2.heap.size := Nat.le_trans (by simp) z2; clear hown hgrow hat)
      | fail "no step")
  all_goals (obtain ⟨F, hF⟩ : ∃ F, F = ((w2.setCell ⟨w.heap.size + 1, 0, none⟩ (.slice D1 t.slots.ages.length d1)).setCell ⟨w.heap.size + 1, 1, none⟩ (.slice D2 t.slots.used.length d2)).setCell ⟨w.heap.size + 1, 2, none⟩ (.slice D3 t.list.length d3) := ⟨_, rfl⟩)
  all_goals (have BF : Blk F (w.heap.size + 1) 34 #[.slice D1 t.slots.ages.length d1, .slice D2 t.slots.used.length d2, .slice D3 t.list.length d3] := by rw [hF]; exact ((R2.set_ 0 _).set_ 1 _).set_ 2 _)
  all_goals (have KF : Kept (w.heap.size + 1) (w.heap.size + 2) w2 F := by rw [hF]; exact (((Kept.refl (w.heap.size + 1) (w.heap.size + 2) w2).setCell (.inr ⟨Nat.le_refl _, Nat.lt_succ_self _⟩) _).setCell (.inr ⟨Nat.le_refl _, Nat.lt_succ_self _⟩) _).setCell (.inr ⟨Nat.le_refl _, Nat.lt_succ_self _⟩) _)
  all_goals (have F0 := ax0 BF; have F1 := ax1 BF; have F2 := ax2 BF; have q1 := KF.size)
  all_goals (have HF := Lib.hid hF; clear hF r0 r1 r2 f0 f1 f2)
  all_goals go_wp2_with fail
  all_goals rw [← HF.out]
  all_goals refine bodyPost_ret (v := .agg #[.slice D1 t.slots.ages.length d1, .slice D2 t.slots.used.length d2, .slice D3 t.list.length d3]) (by simp [results, Try.results59, go_sem, F0, F1, F2]) rfl ⟨_, rfl, ⟨_, _, _, rfl, ⟨D1, d1, rfl, (P1.kept KF (.inr (.inr (by first | omega | (simp; omega))))).wide (by first | omega | (simp; omega)) (by omega)⟩, ⟨D2, d2, rfl, (P2.kept KF (.inr (.inr (by first | omega | (simp; omega))))).wide (by first | omega | (simp; omega)) (by omega)⟩, ⟨D3, d3, rfl, ((OwnZ.of_row O3).kept KF (.inr (.inr (by omega)))).wide (by omega) q1⟩⟩, (KV.out.trans k2).trans2 KF (.inr (by omega))⟩
end Go.Proofs.Ytnnbfcmbcjkpoaa
