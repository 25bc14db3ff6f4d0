/- The reference's copy of timers and its first Due; no condition beyond that the timers can be read. -/
import Derived.Test.YtnphjohmkjoefaaTp
import Derived.Deep.RegionHeld3
namespace Go.Proofs.Ytnphjohmkjoefaa
open Go.RowKit Go.Sort

theorem own_emptyZ {w : World} {g base e size : Nat} (h : Blk w g e #[]) (hb : base ≤ g) : w.ownsRow base e size (.slice (some ⟨g, 0, none⟩) 0 0) 0 [] :=
  ⟨by simp, .inr ⟨g, 0, #[], rfl, hb, h, Nat.le_refl _, by unfold maxLen; omega, by simp, by simp⟩⟩
section
variable {w : World} {g : Nat} {ty : TypeId} {a b c : Value}
theorem bx0 (h : Blk w g ty #[a, b, c]) : w.cell? ⟨g, 0, none⟩ = some a := h.cell 0
theorem bx1 (h : Blk w g ty #[a, b, c]) : w.cell? ⟨g, 1, none⟩ = some b := h.cell 1
theorem bx2 (h : Blk w g ty #[a, b, c]) : w.cell? ⟨g, 2, none⟩ = some c := h.cell 2
end

set_option maxHeartbeats 6400000 in
set_option maxRecDepth 100000 in
theorem copy4_any (t : Tms) (v : Value) (w : World) (h : RdM w w.heap.size v t) (hn : t.heap.length ≤ 1048576) (hn' : t.list.length ≤ 1048576) :
    Calls Try.prog 41 #[v] w fun e w' => ∃ u, e = .returned u ∧ OwnM w' w.heap.size w'.heap.size u t ∧ Kept 0 0 w w' := by
  obtain ⟨hv, lv, rfl, ⟨A1, c1, rfl, s2⟩, ⟨A2, c2, rfl, s3⟩⟩ := h
  obtain ⟨W, hW⟩ : ∃ W, W = (w.alloc (.cells #[.slice A1 t.heap.length c1, .slice A2 t.list.length c2, .int .i64 t.next] 27)).alloc (.cells #[.slice none 0 0, .slice none 0 0, .int .i64 0] 27) := ⟨_, rfl⟩
  have KV : Hid (Kept 0 0 w W) := by show Kept _ _ _ _; rw [hW]; exact (Kept.alloc0 _ _).alloc _
  have B0 : Hid (Blk W w.heap.size 27 #[.slice A1 t.heap.length c1, .slice A2 t.list.length c2, .int .i64 t.next]) := by show Blk _ _ _ _; rw [hW]; exact (Blk.new _ _ _).alloc _
  have R0 : Hid (Blk W (w.heap.size + 1) 27 #[.slice none 0 0, .slice none 0 0, .int .i64 0]) := by
    show Blk _ _ _ _
    rw [hW]
    have := Blk.new (w.alloc (.cells #[.slice A1 t.heap.length c1, .slice A2 t.list.length c2, .int .i64 t.next] 27)) 27 #[.slice none 0 0, .slice none 0 0, .int .i64 0]
    simpa using this
  have zW : w.heap.size + 2 ≤ W.heap.size := by rw [hW]; simp
  have SH := Lib.hid (s2.kept (Nat.le_refl _) KV.out (.inl (Nat.le_refl _)))
  have SL := Lib.hid (s3.kept (Nat.le_refl _) KV.out (.inl (Nat.le_refl _)))
  have HT := Lib.hid tmSlice
  have HW := Lib.hid hW
  clear s2 s3 hW
  go_enter Try.func41, Try.ntmps41
  go_wp2_with fail
  rw [← HW.out]
  go_region_held3 (fun w' => w'.cell? ⟨w.heap.size, 0, none⟩ = some (.slice A1 t.heap.length c1) ∧ w'.cell? ⟨w.heap.size, 1, none⟩ = some (.slice A2 t.list.length c2) ∧ w'.cell? ⟨w.heap.size, 2, none⟩ = some (.int .i64 t.next))
    (first | with_reducible exact ⟨bx0 B0.out.drew, bx1 B0.out.drew, bx2 B0.out.drew⟩ | with_reducible exact ⟨bx0 (B0.out.alloc (.cells #[] 50)).drew, bx1 (B0.out.alloc (.cells #[] 50)).drew, bx2 (B0.out.alloc (.cells #[] 50)).drew⟩ | with_reducible exact ⟨bx0 B1, bx1 B1, bx2 B1⟩ | with_reducible exact ⟨bx0 (B1.alloc (.cells #[] 50)), bx1 (B1.alloc (.cells #[] 50)), bx2 (B1.alloc (.cells #[] 50))⟩ | with_reducible exact ⟨bx0 B2, bx1 B2, bx2 B2⟩ | with_reducible exact ⟨bx0 (((B2.far (by first | omega | (simp; done) | (simp; omega)) _).far (by first | omega | (simp; done) | (simp; omega)) _).far (by first | omega | (simp; done) | (simp; omega)) _), bx1 (((B2.far (by first | omega | (simp; done) | (simp; omega)) _).far (by first | omega | (simp; done) | (simp; omega)) _).far (by first | omega | (simp; done) | (simp; omega)) _), bx2 (((B2.far (by first | omega | (simp; done) | (simp; omega)) _).far (by first | omega | (simp; done) | (simp; omega)) _).far (by first | omega | (simp; done) | (simp; omega)) _)⟩)
    (first
      | (go_at_call 58; ((with_reducible refine (copySpec_any t.heap A1 c1 w.heap.size (W.drew) (by simp; omega) (SH.out.kept (by omega) (Kept.refl 0 0 W).drew (.inl (Nat.le_refl _))) hn).mono ?_)); rintro e w1 ⟨D1, d1, rfl, ho, hk⟩; have k1 : Kept 0 0 W w1 := (Kept.refl 0 0 W).drew.trans hk; have O1 := ho; have z1 := k1.size; have z1' := hk.size; have B1 := B0.out.kept k1 (.inl (Nat.le_refl _)); have R1 := R0.out.kept k1 (.inl (Nat.le_refl _)); clear hk ho)
      | (go_at_call 58; ((with_reducible refine (copySpec_any t.heap A1 c1 w.heap.size ((W.alloc (.cells #[] 50)).drew) (by simp; omega) (SH.out.kept (by omega) (Kept.alloc0 W (.cells #[] 50)).drew (.inl (Nat.le_refl _))) hn).mono ?_)); rintro e w1 ⟨D1, d1, rfl, ho, hk⟩; have k1 : Kept 0 0 W w1 := (Kept.alloc0 W (.cells #[] 50)).drew.trans hk; have O1 := ho; have z1 := k1.size; have z1' := hk.size; have X1 : Blk w1 W.heap.size 50 #[] := (Blk.new W 50 #[]).drew.kept hk (.inl (Nat.le_refl _)); have x1 := X1.lt; have y1 : W.heap.size + 1 ≤ ((W.alloc (.cells #[] 50)).drew).heap.size := (by simp); have B1 := B0.out.kept k1 (.inl (Nat.le_refl _)); have R1 := R0.out.kept k1 (.inl (Nat.le_refl _)); clear hk ho)
      | (have _t := X1; refine step_app (R := tmR) rfl (.tmp 6) (.tmp 8) rfl HT.out W.heap.size (some ⟨W.heap.size, 0, none⟩) 0 [] rfl (own_emptyZ X1 (Nat.le_refl _)) w.heap.size A2 c2 t.list rfl (by exact SL.out.rd.kept (by omega) k1 (.inl (Nat.le_refl _))) (by simp [maxLen]; omega) (by simp; omega) z1 ?_; intro D2 d2 w2 hown hgrow hat; have c2' : Kept W.heap.size (W.heap.size + 1) w1 w2 := kept_of_row hgrow; have k2 : Kept 0 0 W w2 := k1.trans2 c2' (.inr (Nat.le_refl _)); have z2 := c2'.size; have O2 := hown; have P1 := O1.kept c2' (.inr (.inr (by omega))); have B2 := B1.kept c2' (.inr (.inl (by omega))); have R2 := R1.kept c2' (.inr (.inl (by omega))); have r0 := bx0 R2; have r1 := bx1 R2; have r2 := bx2 R2; have f0 := R2.frozen 0; have f1 := R2.frozen 1; have f2 := R2.frozen 2; clear hown hgrow hat)
      | (refine step_app (R := tmR) rfl (.tmp 6) (.tmp 8) rfl HT.out W.heap.size (some ⟨w1.heap.size, 0, none⟩) 0 [] rfl (own_emptyZ (Blk.new w1 50 #[]) z1) w.heap.size A2 c2 t.list rfl (by exact SL.out.rd.kept (by omega) (k1.alloc (.cells #[] 50)) (.inl (Nat.le_refl _))) (by simp [maxLen]; omega) (by simp; omega) (by simp; omega) ?_; intro D2 d2 w2 hown hgrow hat; have c2' : Kept w1.heap.size (w1.heap.size + 1) (w1.alloc (.cells #[] 50)) w2 := kept_of_row hgrow; have k2 : Kept 0 0 W w2 := (k1.alloc (.cells #[] 50)).trans2 c2' (.inr z1); have z2 := c2'.size; have O2 := hown; have P1 := (O1.kept (Kept.alloc0 w1 (.cells #[] 50)) (.inl (Nat.le_refl _))).kept c2' (.inr (.inl (Nat.le_refl _))); have B2 := (B1.alloc (.cells #[] 50)).kept c2' (.inr (.inl (by omega))); have R2 := (R1.alloc (.cells #[] 50)).kept c2' (.inr (.inl (by omega))); have r0 := bx0 R2; have r1 := bx1 R2; have r2 := bx2 R2; have f0 := R2.frozen 0; have f1 := R2.frozen 1; have f2 := R2.frozen 2; have z2' : w1.heap.size ≤ w2.heap.size := Nat.le_trans (by simp) z2; clear hown hgrow hat))
  all_goals (obtain ⟨F, hF⟩ : ∃ F, F = ((w2.setCell ⟨w.heap.size + 1, 0, none⟩ (.slice D1 t.heap.length d1)).setCell ⟨w.heap.size + 1, 1, none⟩ (.slice D2 t.list.length d2)).setCell ⟨w.heap.size + 1, 2, none⟩ (.int .i64 t.next) := ⟨_, rfl⟩)
  all_goals (have BF : Blk F (w.heap.size + 1) 27 #[.slice D1 t.heap.length d1, .slice D2 t.list.length d2, .int .i64 t.next] := by rw [hF]; exact ((R2.set_ 0 _).set_ 1 _).set_ 2 _)
  all_goals (have KF : Kept (w.heap.size + 1) (w.heap.size + 2) w2 F := by rw [hF]; exact (((Kept.refl (w.heap.size + 1) (w.heap.size + 2) w2).setCell (.inr ⟨Nat.le_refl _, Nat.lt_succ_self _⟩) _).setCell (.inr ⟨Nat.le_refl _, Nat.lt_succ_self _⟩) _).setCell (.inr ⟨Nat.le_refl _, Nat.lt_succ_self _⟩) _)
  all_goals (have F0 := bx0 BF; have F1 := bx1 BF; have F2 := bx2 BF; have q1 := KF.size)
  all_goals (have HF := Lib.hid hF; clear hF r0 r1 r2 f0 f1 f2)
  all_goals go_wp2_with fail
  all_goals rw [← HF.out]
  all_goals refine bodyPost_ret (v := .agg #[.slice D1 t.heap.length d1, .slice D2 t.list.length d2, .int .i64 t.next]) (by simp [results, Try.results41, go_sem, F0, F1, F2]) rfl ⟨_, rfl, ⟨_, _, rfl, ⟨D1, d1, rfl, (P1.kept KF (.inr (.inr (by first | omega | (simp; omega))))).wide (by first | omega | (simp; omega)) (by omega)⟩, ⟨D2, d2, rfl, ((OwnZ.of_row O2).kept KF (.inr (.inr (by omega)))).wide (by omega) q1⟩⟩, (KV.out.trans k2).trans2 KF (.inr (by omega))⟩

def nextDueN (t : Tms) : Int := match t.heap with | [] => 9223372036854775807 | x :: _ => x.due
noncomputable def nextDueI (t : Tms) : Int := if timersOkB t then nextDueN t else 9223372036854775807
end Go.Proofs.Ytnphjohmkjoefaa
