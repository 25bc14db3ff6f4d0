/- Copies of slots: the library's Clone and both copy functions; condition: not empty. -/
import Derived.Test.YtnnbfcmbcjkpoaaBb
import Derived.Deep.RegionHeld3
import Derived.Lib.SliceRun
import Derived.Deep.AppendLies
namespace Go.Proofs.Ytnnbfcmbcjkpoaa
open Go.RowKit Go.Sort



theorem oneI (xs : List Int) : ∀ u ∈ xs.map (Value.int .i64), u.oneCell' = true := by
  intro u hu
  obtain ⟨x, _, rfl⟩ := List.mem_map.1 hu
  rfl
theorem oneB (xs : List Bool) : ∀ u ∈ xs.map Value.bool, u.oneCell' = true := by
  intro u hu
  obtain ⟨x, _, rfl⟩ := List.mem_map.1 hu
  rfl
theorem Rd.cells {α : Type} {f : α → Value} {w : World} {B : Nat} {ad : Addr} {xs : List α} (h : Rd f w B (some ad) xs) : ∀ j u, (xs.map f)[j]? = some u → w.cell? (ad.add j) = some u := by
  intro j u hu
  rw [List.getElem?_map] at hu
  cases hx : xs[j]? with
  | none => rw [hx] at hu; cases hu
  | some x =>
    rw [hx] at hu
    injection hu with hu
    subst hu
    have hj : j < xs.length := (List.getElem?_eq_some_iff.1 hx).1
    obtain ⟨ad', e, _, hc⟩ := h.2 (by omega)
    injection e with e
    subst e
    exact hc j x hx

set_option maxHeartbeats 800000 in
theorem cloneI_any (xs : List Int) (A : Option Addr) (c B : Nat) (w : World) (hB : B ≤ w.heap.size) (h : Rd (Value.int .i64) w B A xs) (h1 : 1 ≤ xs.length) (h2 : xs.length ≤ 1048576) :
    Calls Try.prog 83 #[.slice A xs.length c] w fun e w' => ∃ (D : Option Addr) (d : Nat), e = .returned (.slice D xs.length d) ∧ Own w' w.heap.size w'.heap.size 2 D xs.length d (xs.map (Value.int .i64)) ∧ Kept 0 0 w w' := by
  obtain ⟨ad, rfl, hb, _⟩ := h.at_ h1
  obtain ⟨i0, hi, hz0, hz1, hz2⟩ := info_parts Try.info2
  have hnil := fun w => Lib.run_eql_slice_nil (P := Try.prog) w 28 2 (some ad) xs.length c 0 0 Try.underlying28
  have hr := h.kept hB (Kept.alloc0 w (.cells #[] 2)) (.inl (Nat.le_refl _))
  have ho := World.ownsRow_lit (e := 2) (size := 1) (base := w.heap.size) w #[] 0 (Nat.le_refl _) (by unfold maxLen; omega) rfl
  have HR := Lib.hid hr.cells
  have HO := Lib.hid ho
  clear hr ho h
  go_enter Try.func83, Try.ntmps83
  go_wp2_with (at_builtin; refine wpList_append_lies _ rfl _ _ 28 rfl w.heap.size 2 i0 (.int .i64 0) 1 8 Try.underlying28 hi hz0 hz1 hz2 rfl (by decide) _ 0 [] rfl HO.out ad xs.length c (xs.map (Value.int .i64)) rfl (by simp) HR.out (oneI xs) (by omega) (by unfold maxLen; omega) (by omega) (by simp) (w.heap.size + 1) (by simp) ?_; intro g cap w' hown hgrow hlie hlt)
  have hg : (w.alloc (.cells #[] 2)).grownBy w' (some w.heap.size) := hgrow
  have hk : Kept 0 0 w w' := (Kept.alloc0 w (.cells #[] 2)).trans2 (Kept.of_grown hg (lo := w.heap.size) (hi := w.heap.size + 1) (by rintro k hk; injection hk with hk; omega)) (.inr (Nat.le_refl _))
  clear hgrow hlie hg
  go_ret
  exact ⟨_, _, rfl, own_of_row (by simpa using hown) _ hlt, hk⟩
set_option maxHeartbeats 800000 in
theorem cloneB_any (xs : List Bool) (A : Option Addr) (c B : Nat) (w : World) (hB : B ≤ w.heap.size) (h : Rd Value.bool w B A xs) (h1 : 1 ≤ xs.length) (h2 : xs.length ≤ 1048576) :
    Calls Try.prog 84 #[.slice A xs.length c] w fun e w' => ∃ (D : Option Addr) (d : Nat), e = .returned (.slice D xs.length d) ∧ Own w' w.heap.size w'.heap.size 4 D xs.length d (xs.map Value.bool) ∧ Kept 0 0 w w' := by
  obtain ⟨ad, rfl, hb, _⟩ := h.at_ h1
  obtain ⟨i0, hi, hz0, hz1, hz2⟩ := info_parts Try.info4
  have hnil := fun w => Lib.run_eql_slice_nil (P := Try.prog) w 29 4 (some ad) xs.length c 0 0 Try.underlying29
  have hr := h.kept hB (Kept.alloc0 w (.cells #[] 4)) (.inl (Nat.le_refl _))
  have ho := World.ownsRow_lit (e := 4) (size := 1) (base := w.heap.size) w #[] 0 (Nat.le_refl _) (by unfold maxLen; omega) rfl
  have HR := Lib.hid hr.cells
  have HO := Lib.hid ho
  clear hr ho h
  go_enter Try.func84, Try.ntmps84
  go_wp2_with (at_builtin; refine wpList_append_lies _ rfl _ _ 29 rfl w.heap.size 4 i0 (.bool false) 1 1 Try.underlying29 hi hz0 hz1 hz2 rfl (by decide) _ 0 [] rfl HO.out ad xs.length c (xs.map Value.bool) rfl (by simp) HR.out (oneB xs) (by omega) (by unfold maxLen; omega) (by omega) (by simp) (w.heap.size + 1) (by simp) ?_; intro g cap w' hown hgrow hlie hlt)
  have hg : (w.alloc (.cells #[] 4)).grownBy w' (some w.heap.size) := hgrow
  have hk : Kept 0 0 w w' := (Kept.alloc0 w (.cells #[] 4)).trans2 (Kept.of_grown hg (lo := w.heap.size) (hi := w.heap.size + 1) (by rintro k hk; injection hk with hk; omega)) (.inr (Nat.le_refl _))
  clear hgrow hlie hg
  go_ret
  exact ⟨_, _, rfl, own_of_row (by simpa using hown) _ hlt, hk⟩

set_option maxHeartbeats 1600000 in
theorem copyImpl_any (ages : List Int) (used : List Bool) (A A' : Option Addr) (c c' B : Nat) (w : World) (hB : B ≤ w.heap.size) (h : RdL w B A A' ages used) (h1 : 1 ≤ ages.length) (h2 : ages.length ≤ 64) (h3 : used.length = ages.length) :
    Calls Try.prog 62 #[.agg #[.slice A ages.length c, .slice A' used.length c']] w fun e w' => ∃ (D D' : Option Addr) (d d' : Nat),
      e = .returned (.agg #[.slice D ages.length d, .slice D' used.length d']) ∧ OwnL w' w.heap.size w'.heap.size D d D' d' ages used ∧ Kept 0 0 w w' := by
  have H := Lib.hid h
  have H3 := Lib.hid h3
  have g1 : 1 ≤ used.length := by omega
  have g2 : used.length ≤ 64 := by omega
  clear h h3
  go_enter Try.func62, Try.ntmps62
  go_wp2
  obtain ⟨W, hW⟩ : ∃ W, W = (w.alloc (.cells #[.slice A ages.length c, .slice A' used.length c'] 31)).alloc (.cells #[.slice none 0 0, .slice none 0 0] 31) := ⟨_, rfl⟩
  have B1 : Hid (Blk W w.heap.size 31 #[.slice A ages.length c, .slice A' used.length c']) := by show Blk _ _ _ _; rw [hW]; exact (Blk.new w 31 _).alloc _
  have B2 : Hid (Blk W (w.heap.size + 1) 31 #[.slice none 0 0, .slice none 0 0]) := by show Blk _ _ _ _; rw [hW]; have := (Blk.new (w.alloc (.cells #[.slice A ages.length c, .slice A' used.length c'] 31)) 31 #[.slice none 0 0, .slice none 0 0]); simpa using this
  have K := Lib.hid (show Kept 0 0 w W by rw [hW]; exact (Kept.alloc0 w _).alloc _)
  rw [← hW]
  clear hW
  have hz := K.out.size
  have hz2 := B2.out.lt
  have c0 := B1.out.cell 0
  have c1 := B1.out.cell 1
  go_region_held3 (fun w' => w'.cell? ⟨w.heap.size, 0, none⟩ = some (.slice A ages.length c) ∧ w'.cell? ⟨w.heap.size, 1, none⟩ = some (.slice A' used.length c')) (first | exact ⟨c0, c1⟩ | exact ⟨d0, d1⟩ | exact ⟨f0, f1⟩ | exact ⟨((B13.out.far (by simp) _).far (by simp) _).cell 0, ((B13.out.far (by simp) _).far (by simp) _).cell 1⟩)
    (first
      | (go_at_call 83; refine (cloneI_any _ _ _ B _ (by exact Nat.le_trans hB hz) (by exact (H.out.kept hB K.out.drew (.inl (Nat.le_refl _))).i) (by omega) (by omega)).mono ?_; rintro e w2 ⟨D, d, rfl, ho, hk⟩; have k2 : Kept 0 0 W w2 := (Kept.refl 0 0 W).drew.trans hk; have z2 := k2.size; have B12 := Lib.hid (B1.out.kept k2 (by omega)); have B22 := Lib.hid (B2.out.kept k2 (by omega)); have K2 := Lib.hid (K.out.trans k2); have O2 := Lib.hid (show Own w2 W.heap.size w2.heap.size 2 D ages.length d (ages.map (Value.int .i64)) from ho); clear hk ho; have d0 := B12.out.cell 0; have d1 := B12.out.cell 1)
      | (go_at_call 84; refine (cloneB_any _ _ _ B _ (by exact Nat.le_trans hB K2.out.size) (by exact (H.out.kept hB K2.out (.inl (Nat.le_refl _))).b) (by omega) (by omega)).mono ?_; rintro e w3 ⟨D', d', rfl, ho, hk⟩; have z3 := hk.size; have B13 := Lib.hid (B12.out.kept hk (by omega)); have B23 := Lib.hid (B22.out.kept hk (by omega)); have K3 := Lib.hid (K2.out.trans hk); have O3 := Lib.hid (O2.out.kept hk (by omega)); have P3 := Lib.hid ho; clear hk ho; have f0 := B13.out.cell 0; have f1 := B13.out.cell 1; have q0 := B23.out.cell 0; have q1 := B23.out.cell 1; have q2 := B23.out.frozen 0; have q3 := B23.out.frozen 1))
  clear c0 c1 d0 d1 f0 f1
  go_wp2
  refine bodyPost_ret (v := .agg #[.slice D ages.length d, .slice D' used.length d']) (by simp [results, Try.results62, go_sem, q0, q1]) rfl ⟨D, D', d, d', rfl, ⟨?_, ?_⟩, ?_⟩
  · exact ((O3.out.far (.inl (by simp; omega)) _).far (.inl (by simp; omega)) _).wide (by omega) (by simp; omega)
  · exact ((P3.out.far (.inl (by simp; omega)) _).far (.inl (by simp; omega)) _).wide (by omega) (by simp)
  · exact (K3.out.setCell (.inl (by simp)) _).setCell (.inl (by simp)) _

set_option maxHeartbeats 1600000 in
theorem copySpec_any (ages : List Int) (used : List Bool) (A A' : Option Addr) (c c' B : Nat) (w : World) (hB : B ≤ w.heap.size) (h : RdL w B A A' ages used) (h1 : 1 ≤ ages.length) (h2 : ages.length ≤ 64) (h3 : used.length = ages.length) :
    Calls Try.prog 81 #[.agg #[.slice A ages.length c, .slice A' used.length c']] w fun e w' => ∃ (D D' : Option Addr) (d d' : Nat),
      e = .returned (.agg #[.slice D ages.length d, .slice D' used.length d']) ∧ OwnL w' w.heap.size w'.heap.size D d D' d' ages used ∧ Kept 0 0 w w' := by
  have H := Lib.hid h
  have H3 := Lib.hid h3
  have g1 : 1 ≤ used.length := by omega
  have g2 : used.length ≤ 64 := by omega
  obtain ⟨ad, rfl, _, _⟩ := h.i.at_ h1
  obtain ⟨ad', rfl, _, _⟩ := h.b.at_ g1
  obtain ⟨i0, hi, hz0, hz1, hz2⟩ := info_parts Try.info2
  obtain ⟨j0, hj, jz0, jz1, jz2⟩ := info_parts Try.info4
  clear h h3
  go_enter Try.func81, Try.ntmps81
  go_wp2
  obtain ⟨W, hW⟩ : ∃ W, W = (w.alloc (.cells #[.slice (some ad) ages.length c, .slice (some ad') used.length c'] 31)).alloc (.cells #[.slice none 0 0, .slice none 0 0] 31) := ⟨_, rfl⟩
  have B1 : Hid (Blk W w.heap.size 31 #[.slice (some ad) ages.length c, .slice (some ad') used.length c']) := by show Blk _ _ _ _; rw [hW]; exact (Blk.new w 31 _).alloc _
  have B2 : Hid (Blk W (w.heap.size + 1) 31 #[.slice none 0 0, .slice none 0 0]) := by show Blk _ _ _ _; rw [hW]; have := (Blk.new (w.alloc (.cells #[.slice (some ad) ages.length c, .slice (some ad') used.length c'] 31)) 31 #[.slice none 0 0, .slice none 0 0]); simpa using this
  have K := Lib.hid (show Kept 0 0 w W by rw [hW]; exact (Kept.alloc0 w _).alloc _)
  rw [← hW]
  clear hW
  have hz := K.out.size
  have zz := B2.out.lt
  have c0 := B1.out.cell 0
  have c1 := B1.out.cell 1
  go_region_held3 (fun w' => w'.cell? ⟨w.heap.size, 0, none⟩ = some (.slice (some ad) ages.length c) ∧ w'.cell? ⟨w.heap.size, 1, none⟩ = some (.slice (some ad') used.length c')) (first | exact ⟨c0, c1⟩ | exact ⟨(B1.out.alloc _).cell 0, (B1.out.alloc _).cell 1⟩ | exact ⟨((B1.out.alloc _).alloc _).cell 0, ((B1.out.alloc _).alloc _).cell 1⟩ | exact ⟨B12.cell 0, B12.cell 1⟩ | exact ⟨(B12.alloc _).cell 0, (B12.alloc _).cell 1⟩ | exact ⟨B13.cell 0, B13.cell 1⟩ | exact ⟨((B13.far (by simp) _).far (by simp) _).cell 0, ((B13.far (by simp) _).far (by simp) _).cell 1⟩)
    (first
      | (refine step_append_lies _ rfl (.tmp 3) (.tmp 5) 28 rfl W.heap.size 2 i0 (.int .i64 0) 1 8 Try.underlying28 hi hz0 hz1 hz2 rfl (by decide) _ 0 [] rfl (own_empty (Blk.new W 2 #[]).drew (Nat.le_refl _)) ad ages.length c (ages.map (Value.int .i64)) rfl (by simp) (by exact (H.out.kept hB (K.out.trans (Kept.alloc0 W (.cells #[] 2)).drew) (.inl (Nat.le_refl _))).i.cells) (oneI ages) (by omega) (by unfold maxLen; omega) (by omega) (by first | omega | (simp; omega) | (simp; done)) _ rfl ?_; intro g cap w2 hown hgrow hlie hlt; have k2 : Kept 0 0 W w2 := app_kept (Kept.alloc0 W (.cells #[] 2)).drew (X := W.heap.size) (by omega) hgrow; have z2 := k2.size; have B12 := B1.out.kept k2 (by omega); have B22 := B2.out.kept k2 (by omega); have O2 : Own w2 W.heap.size w2.heap.size 2 (some ⟨g, 0, none⟩) ages.length cap (ages.map (Value.int .i64)) := own_of_row (by simpa using hown) _ hlt; clear hown hgrow hlie; simp only [Nat.zero_add])
      | (refine step_append_lies _ rfl (.tmp 3) (.tmp 5) 28 rfl W.heap.size 2 i0 (.int .i64 0) 1 8 Try.underlying28 hi hz0 hz1 hz2 rfl (by decide) _ 0 [] rfl (own_empty ((Blk.new W 2 #[]).alloc (.cells #[] 4)).drew (Nat.le_refl _)) ad ages.length c (ages.map (Value.int .i64)) rfl (by simp) (by exact (H.out.kept hB (K.out.trans ((Kept.alloc0 W (.cells #[] 2)).alloc (.cells #[] 4)).drew) (.inl (Nat.le_refl _))).i.cells) (oneI ages) (by omega) (by unfold maxLen; omega) (by omega) (by first | omega | (simp; omega) | (simp; done)) _ rfl ?_; intro g cap w2 hown hgrow hlie hlt; have k2 : Kept 0 0 W w2 := app_kept ((Kept.alloc0 W (.cells #[] 2)).alloc (.cells #[] 4)).drew (X := W.heap.size) (by omega) hgrow; have z2 := k2.size; have B12 := B1.out.kept k2 (by omega); have B22 := B2.out.kept k2 (by omega); have O2 : Own w2 W.heap.size w2.heap.size 2 (some ⟨g, 0, none⟩) ages.length cap (ages.map (Value.int .i64)) := own_of_row (by simpa using hown) _ hlt; have bY : Blk w2 (W.heap.size + 1) 4 #[] := (blk_new1 W _ 4).drew.kept (kept_of_row (g := W.heap.size) hgrow) (by omega); have zY : W.heap.size ≤ W.heap.size + 1 := Nat.le_succ _; clear hown hgrow hlie; simp only [Nat.zero_add])
      | (refine step_append_lies _ rfl (.tmp 3) (.tmp 5) 28 rfl W.heap.size 2 i0 (.int .i64 0) 1 8 Try.underlying28 hi hz0 hz1 hz2 rfl (by decide) _ 0 [] rfl (own_empty (blk_new1 W (.cells #[] 4) 2).drew (by omega)) ad ages.length c (ages.map (Value.int .i64)) rfl (by simp) (by exact (H.out.kept hB (K.out.trans ((Kept.alloc0 W (.cells #[] 4)).alloc (.cells #[] 2)).drew) (.inl (Nat.le_refl _))).i.cells) (oneI ages) (by omega) (by unfold maxLen; omega) (by omega) (by first | omega | (simp; omega) | (simp; done)) _ rfl ?_; intro g cap w2 hown hgrow hlie hlt; have k2 : Kept 0 0 W w2 := app_kept ((Kept.alloc0 W (.cells #[] 4)).alloc (.cells #[] 2)).drew (X := (W.heap.size + 1)) (by omega) hgrow; have z2 := k2.size; have B12 := B1.out.kept k2 (by omega); have B22 := B2.out.kept k2 (by omega); have O2 : Own w2 W.heap.size w2.heap.size 2 (some ⟨g, 0, none⟩) ages.length cap (ages.map (Value.int .i64)) := own_of_row (by simpa using hown) _ hlt; have bY : Blk w2 W.heap.size 4 #[] := ((Blk.new W 4 #[]).alloc _).drew.kept (kept_of_row (g := W.heap.size + 1) hgrow) (by omega); have zY : W.heap.size ≤ W.heap.size := Nat.le_refl _; clear hown hgrow hlie; simp only [Nat.zero_add])
      | (refine step_append_lies _ rfl (.tmp 7) (.tmp 9) 29 rfl W.heap.size 4 j0 (.bool false) 1 1 Try.underlying29 hj jz0 jz1 jz2 rfl (by decide) _ 0 [] rfl (own_empty (Blk.new w2 4 #[]) z2) ad' used.length c' (used.map Value.bool) rfl (by simp) (by exact (H.out.kept hB (K.out.trans (k2.alloc (.cells #[] 4))) (.inl (Nat.le_refl _))).b.cells) (oneB used) (by omega) (by unfold maxLen; omega) (by omega) (by first | omega | (simp; omega) | (simp; done)) _ rfl ?_; intro g' cap' w3 hown hgrow hlie hlt; have k3 : Kept 0 0 W w3 := app_kept (k2.alloc (.cells #[] 4)) (X := w2.heap.size) z2 hgrow; have O3 : Own w3 W.heap.size w3.heap.size 2 (some ⟨g, 0, none⟩) ages.length cap (ages.map (Value.int .i64)) := ((O2.alloc (.cells #[] 4)).beside (Blk.new w2 4 #[]) (by decide) (kept_of_row (g := w2.heap.size) hgrow)).wide (Nat.le_refl _) (Nat.le_trans (by simp) hgrow.size); have P3 : Own w3 W.heap.size w3.heap.size 4 (some ⟨g', 0, none⟩) used.length cap' (used.map Value.bool) := own_of_row (by simpa using hown) _ hlt; have z3 := k3.size; have B13 := B1.out.kept k3 (by omega); have B23 := B2.out.kept k3 (by omega); have q0 := B23.cell 0; have q1 := B23.cell 1; have q2 := B23.frozen 0; have q3 := B23.frozen 1; clear hown hgrow hlie; simp only [Nat.zero_add])
      | (refine step_append_lies _ rfl (.tmp 7) (.tmp 9) 29 rfl W.heap.size 4 j0 (.bool false) 1 1 Try.underlying29 hj jz0 jz1 jz2 rfl (by decide) _ 0 [] rfl (own_empty bY zY) ad' used.length c' (used.map Value.bool) rfl (by simp) (by exact (H.out.kept hB (K.out.trans k2) (.inl (Nat.le_refl _))).b.cells) (oneB used) (by omega) (by unfold maxLen; omega) (by omega) (by first | omega | (simp; omega) | (simp; done)) _ rfl ?_; intro g' cap' w3 hown hgrow hlie hlt; have k3 : Kept 0 0 W w3 := app_kept k2 zY hgrow; have O3 : Own w3 W.heap.size w3.heap.size 2 (some ⟨g, 0, none⟩) ages.length cap (ages.map (Value.int .i64)) := (O2.beside bY (by decide) (kept_of_row hgrow)).wide (Nat.le_refl _) hgrow.size; have P3 : Own w3 W.heap.size w3.heap.size 4 (some ⟨g', 0, none⟩) used.length cap' (used.map Value.bool) := own_of_row (by simpa using hown) _ hlt; have z3 := k3.size; have B13 := B1.out.kept k3 (by omega); have B23 := B2.out.kept k3 (by omega); have q0 := B23.cell 0; have q1 := B23.cell 1; have q2 := B23.frozen 0; have q3 := B23.frozen 1; clear hown hgrow hlie; simp only [Nat.zero_add]))
  all_goals go_wp2
  all_goals refine bodyPost_ret (v := .agg #[.slice (some ⟨g, 0, none⟩) ages.length cap, .slice (some ⟨g', 0, none⟩) used.length cap']) (by simp [results, Try.results81, go_sem, q0, q1]) rfl ⟨some ⟨g, 0, none⟩, some ⟨g', 0, none⟩, cap, cap', rfl, ⟨?_, ?_⟩, ?_⟩
  all_goals first
    | exact ((O3.far (.inl (by simp; omega)) _).far (.inl (by simp; omega)) _).wide (by omega) (by simp)
    | exact ((P3.far (.inl (by simp; omega)) _).far (.inl (by simp; omega)) _).wide (by omega) (by simp)
    | exact ((K.out.trans k3).setCell (.inl (by simp)) _).setCell (.inl (by simp)) _
end Go.Proofs.Ytnnbfcmbcjkpoaa
