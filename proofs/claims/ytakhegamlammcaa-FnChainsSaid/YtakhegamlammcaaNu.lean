/- The reference's Grown; no condition beyond that the slice can be read. -/
import Derived.Test.YtakhegamlammcaaNs
import Derived.Deep.RegionHeld3
namespace Go.Proofs.Ytakhegamlammcaa
open Go.RowKit Go.Sort

theorem own_litN (w : World) (x : Nd) : (w.alloc (.cells #[.int .i64 x.kind, .int .i64 x.up, .int .i64 x.due, .int .i64 x.key, .int .i64 x.value] 32)).ownsRow w.heap.size 32 5 (.slice (some ⟨w.heap.size, 0, none⟩) 1 1) 1 (ndR.flat [x]) :=
  World.ownsRow_lit w #[.int .i64 x.kind, .int .i64 x.up, .int .i64 x.due, .int .i64 x.key, .int .i64 x.value] 1 (Nat.le_refl _) (by unfold maxLen; omega) rfl
theorem rd_litN (w : World) (x : Nd) : RdR ndR (w.alloc (.cells #[.int .i64 x.kind, .int .i64 x.up, .int .i64 x.due, .int .i64 x.key, .int .i64 x.value] 32)) (w.heap.size + 1) (some ⟨w.heap.size, 0, none⟩) [x] := by
  have := (OwnZ.rd (R := ndR) (OwnZ.of_row (own_litN w x))).2
  simpa using this
section
variable {w : World} {g : Nat} {ty : TypeId} {a b c d e : Value}
theorem by0 (h : Blk w g ty #[a, b, c, d, e]) : w.cell? ⟨g, 0, none⟩ = some a := h.cell 0
theorem by1 (h : Blk w g ty #[a, b, c, d, e]) : w.cell? ⟨g, 1, none⟩ = some b := h.cell 1
theorem by2 (h : Blk w g ty #[a, b, c, d, e]) : w.cell? ⟨g, 2, none⟩ = some c := h.cell 2
theorem by3 (h : Blk w g ty #[a, b, c, d, e]) : w.cell? ⟨g, 3, none⟩ = some d := h.cell 3
theorem by4 (h : Blk w g ty #[a, b, c, d, e]) : w.cell? ⟨g, 4, none⟩ = some e := h.cell 4
end
set_option maxHeartbeats 6400000 in
set_option maxRecDepth 100000 in
theorem grown5_any (t : List Nd) (x : Nd) (v : Value) (w : World) (h : RdNd w w.heap.size v t) :
    Calls Try.prog 26 #[v, .agg #[.int .i64 x.kind, .int .i64 x.up, .int .i64 x.due, .int .i64 x.key, .int .i64 x.value]] w fun e w' => ∃ u, e = .returned (.tuple #[u, .int .i64 (grownI t x)]) ∧ OwnNd w' w.heap.size w'.heap.size u (grownL t x) ∧ Kept 0 0 w w' := by
  have H := Lib.hid h
  obtain ⟨W, hW⟩ : ∃ W, W = w.alloc (.cells #[.int .i64 x.kind, .int .i64 x.up, .int .i64 x.due, .int .i64 x.key, .int .i64 x.value] 32) := ⟨_, rfl⟩
  have KW : Hid (Kept 0 0 w W) := by show Kept _ _ _ _; rw [hW]; exact Kept.alloc0 _ _
  have B0 : Hid (Blk W w.heap.size 32 #[.int .i64 x.kind, .int .i64 x.up, .int .i64 x.due, .int .i64 x.key, .int .i64 x.value]) := by show Blk _ _ _ _; rw [hW]; exact Blk.new _ _ _
  have CO := Lib.hid (tree5_any t v W (H.out.up KW.out))
  have zW : w.heap.size + 1 ≤ W.heap.size := by rw [hW]; simp
  have HW := Lib.hid hW
  clear hW
  obtain ⟨A, c, rfl, h⟩ := h
  clear h
  have HS := Lib.hid ndSlice
  cases q1 : treeB t
  · have E : Hid (grownI t x = -1) := by show _ = _; simp [grownI, q1]
    have EL : Hid (grownL t x = []) := by show _ = _; simp [grownL, q1]
    rw [q1] at CO
    clear q1
    go_enter Try.func26, Try.ntmps26
    go_wp2_with fail
    rw [← HW.out]
    with_reducible refine CO.out.mono ?_
    rintro e w1 ⟨rfl, hk⟩
    have K1 := Lib.hid (KW.out.trans hk)
    clear hk CO
    go_wp2
    go_ret2
    rw [E.out, EL.out]
    exact ⟨_, rfl, ⟨_, 0, rfl, OwnZ.mk_ (ownsRow_lo (own_emptyZ (Blk.new w1 32 #[]) (Nat.le_refl _)) K1.out.size) (by simp)⟩, K1.out.alloc _⟩
  have L : t.length ≤ 60 := (treeB_true.1 q1).len
  have Q1 := Lib.hid q1
  rw [q1] at CO
  clear q1
  go_enter Try.func26, Try.ntmps26
  go_wp2_with fail
  rw [← HW.out]
  with_reducible refine CO.out.mono ?_
  rintro e w1 ⟨rfl, hk⟩
  have K1 := Lib.hid (KW.out.trans hk)
  have B1 := Lib.hid (B0.out.kept hk (.inl (Nat.le_refl _)))
  have z1 := K1.out.size
  have y1 := B1.out.lt
  have H1 := Lib.hid (H.out.kept (Nat.le_refl _) K1.out (.inl (Nat.le_refl _)))
  clear hk CO B0 KW HW H
  go_upto_region 3 with fail
  go_region_held3 (fun w' => w'.cell? ⟨w.heap.size, 0, none⟩ = some (.int .i64 x.kind) ∧ w'.cell? ⟨w.heap.size, 1, none⟩ = some (.int .i64 x.up) ∧ w'.cell? ⟨w.heap.size, 2, none⟩ = some (.int .i64 x.due) ∧ w'.cell? ⟨w.heap.size, 3, none⟩ = some (.int .i64 x.key) ∧ w'.cell? ⟨w.heap.size, 4, none⟩ = some (.int .i64 x.value))
    (first | with_reducible exact ⟨by0 B1.out.drew, by1 B1.out.drew, by2 B1.out.drew, by3 B1.out.drew, by4 B1.out.drew⟩ | with_reducible exact ⟨by0 (B1.out.drew.alloc (.cells #[.int .i64 x.kind, .int .i64 x.up, .int .i64 x.due, .int .i64 x.key, .int .i64 x.value] 32)), by1 (B1.out.drew.alloc (.cells #[.int .i64 x.kind, .int .i64 x.up, .int .i64 x.due, .int .i64 x.key, .int .i64 x.value] 32)), by2 (B1.out.drew.alloc (.cells #[.int .i64 x.kind, .int .i64 x.up, .int .i64 x.due, .int .i64 x.key, .int .i64 x.value] 32)), by3 (B1.out.drew.alloc (.cells #[.int .i64 x.kind, .int .i64 x.up, .int .i64 x.due, .int .i64 x.key, .int .i64 x.value] 32)), by4 (B1.out.drew.alloc (.cells #[.int .i64 x.kind, .int .i64 x.up, .int .i64 x.due, .int .i64 x.key, .int .i64 x.value] 32))⟩ | with_reducible exact ⟨by0 (B1.out.alloc (.cells #[.int .i64 x.kind, .int .i64 x.up, .int .i64 x.due, .int .i64 x.key, .int .i64 x.value] 32)).drew, by1 (B1.out.alloc (.cells #[.int .i64 x.kind, .int .i64 x.up, .int .i64 x.due, .int .i64 x.key, .int .i64 x.value] 32)).drew, by2 (B1.out.alloc (.cells #[.int .i64 x.kind, .int .i64 x.up, .int .i64 x.due, .int .i64 x.key, .int .i64 x.value] 32)).drew, by3 (B1.out.alloc (.cells #[.int .i64 x.kind, .int .i64 x.up, .int .i64 x.due, .int .i64 x.key, .int .i64 x.value] 32)).drew, by4 (B1.out.alloc (.cells #[.int .i64 x.kind, .int .i64 x.up, .int .i64 x.due, .int .i64 x.key, .int .i64 x.value] 32)).drew⟩ | with_reducible exact ⟨by0 B2, by1 B2, by2 B2, by3 B2, by4 B2⟩ | with_reducible exact ⟨by0 (B2.alloc (.cells #[.int .i64 x.kind, .int .i64 x.up, .int .i64 x.due, .int .i64 x.key, .int .i64 x.value] 32)), by1 (B2.alloc (.cells #[.int .i64 x.kind, .int .i64 x.up, .int .i64 x.due, .int .i64 x.key, .int .i64 x.value] 32)), by2 (B2.alloc (.cells #[.int .i64 x.kind, .int .i64 x.up, .int .i64 x.due, .int .i64 x.key, .int .i64 x.value] 32)), by3 (B2.alloc (.cells #[.int .i64 x.kind, .int .i64 x.up, .int .i64 x.due, .int .i64 x.key, .int .i64 x.value] 32)), by4 (B2.alloc (.cells #[.int .i64 x.kind, .int .i64 x.up, .int .i64 x.due, .int .i64 x.key, .int .i64 x.value] 32))⟩ | with_reducible exact ⟨by0 B3, by1 B3, by2 B3, by3 B3, by4 B3⟩)
    (first
      | (go_at_call 52; (with_reducible refine (copy5_any t _ w1.drew w.heap.size (by simp; omega) (H1.out.kept z1 (Kept.refl 0 0 w1).drew (.inl (Nat.le_refl _))) (by omega)).mono ?_); rintro e w2 ⟨_, rfl, ⟨D2, d2, rfl, ho⟩, hk⟩; have k2 : Kept 0 0 w1 w2 := (Kept.refl 0 0 w1).drew.trans hk; have z2 := k2.size; have B2 := B1.out.kept k2 (.inl (Nat.le_refl _)); have O2 := ho; clear hk ho)
      | (go_at_call 52; (with_reducible refine (copy5_any t _ (w1.alloc (.cells #[.int .i64 x.kind, .int .i64 x.up, .int .i64 x.due, .int .i64 x.key, .int .i64 x.value] 32)).drew w.heap.size (by simp; omega) (H1.out.kept z1 (Kept.alloc0 w1 (.cells #[.int .i64 x.kind, .int .i64 x.up, .int .i64 x.due, .int .i64 x.key, .int .i64 x.value] 32)).drew (.inl (Nat.le_refl _))) (by omega)).mono ?_); rintro e w2 ⟨_, rfl, ⟨D2, d2, rfl, ho⟩, hk⟩; have k2 : Kept 0 0 w1 w2 := (Kept.alloc0 w1 (.cells #[.int .i64 x.kind, .int .i64 x.up, .int .i64 x.due, .int .i64 x.key, .int .i64 x.value] 32)).drew.trans hk; have z2 := k2.size; have B2 := B1.out.kept k2 (.inl (Nat.le_refl _)); have X2 : RdR ndR w2 (w1.heap.size + 1) (some ⟨w1.heap.size, 0, none⟩) [x] := ((rd_litN w1 x).kept (by simp) (Kept.refl 0 0 _).drew (.inl (Nat.le_refl _))).kept (by simp) hk (.inl (Nat.le_refl _)); have O2 := ho; clear hk ho)
      | (have _t := X2; refine step_app (R := ndR) rfl (.tmp 12) (.tmp 14) rfl HS.out w1.heap.size D2 d2 t rfl (ownsRow_lo O2.1 (by simp)) (w1.heap.size + 1) (some ⟨w1.heap.size, 0, none⟩) 1 [x] rfl X2 (by simp [maxLen]; omega) (by simp; omega) z2 ?_; intro D3 d3 w3 hown hgrow hat; have k3 : Kept 0 0 w1 w3 := k2.app hgrow (fun g hg => by have := (own_row_lo O2.1 g hg).1; simp at this; omega); have B3 := B1.out.kept k3 (.inl (Nat.le_refl _)); have O3 := hown; clear hown hgrow hat)
      | (refine step_app (R := ndR) rfl (.tmp 12) (.tmp 14) rfl HS.out w1.heap.size D2 d2 t rfl (row_kept (ownsRow_lo O2.1 (by simp)) (Kept.alloc0 w2 (.cells #[.int .i64 x.kind, .int .i64 x.up, .int .i64 x.due, .int .i64 x.key, .int .i64 x.value] 32))) (w2.heap.size + 1) (some ⟨w2.heap.size, 0, none⟩) 1 [x] rfl (rd_litN w2 x) (by simp [maxLen]; omega) (by simp; omega) (by simp; omega) ?_; intro D3 d3 w3 hown hgrow hat; have k3 : Kept 0 0 w1 w3 := (k2.alloc (.cells #[.int .i64 x.kind, .int .i64 x.up, .int .i64 x.due, .int .i64 x.key, .int .i64 x.value] 32)).app hgrow (fun g hg => by have := (own_row_lo O2.1 g hg).1; simp at this; omega); have B3 := B1.out.kept k3 (.inl (Nat.le_refl _)); have O3 := hown; clear hown hgrow hat)
      | fail)
  all_goals
    have K3 := Lib.hid (K1.out.trans k3)
    have z3 := k3.size
    have O4 : Hid (OwnNd w3 w1.heap.size w3.heap.size (.slice D3 (t.length + 1) d3) (t ++ [x])) := ⟨D3, d3, by simp, OwnZ.of_row O3⟩
    have H3 := Lib.hid (H1.out.kept z1 k3 (.inl (Nat.le_refl _)))
    clear k2 k3 O2 O3 B2 B3
    go_wp2_with fail
    with_reducible refine (tree5_any (t ++ [x]) _ w3 (O4.out.rdW (Nat.le_refl _))).mono ?_
    rintro e w4 ⟨rfl, hk⟩
    have K4 := Lib.hid (K3.out.trans hk)
    have O5 := Lib.hid (O4.out.kept hk (.inl (Nat.le_refl _)))
    have H4 := Lib.hid (H3.out.kept (by omega) hk (.inl (Nat.le_refl _)))
    have z4 := hk.size
    clear hk K3 O4 H3
    cases q2 : treeB (t ++ [x])
    · have E : Hid (grownI t x = -1) := by show _ = _; simp [grownI, Q1.out, q2]
      have EL : Hid (grownL t x = t) := by show _ = _; simp [grownL, Q1.out, q2]
      clear q2
      go_wp2_with fail
      with_reducible refine (copy5_any t _ w4 w.heap.size (by omega) H4.out (by omega)).mono ?_
      rintro e w5 ⟨_, rfl, ⟨D5, d5, rfl, ho⟩, hk⟩
      have K5 := Lib.hid (K4.out.trans hk)
      have O6 := Lib.hid (ho.wide (lo' := w.heap.size) (by omega) (Nat.le_refl _))
      clear hk ho
      go_wp2
      go_ret2
      rw [E.out, EL.out]
      exact ⟨_, rfl, ⟨D5, d5, rfl, O6.out⟩, K5.out⟩
    · have E : Hid (grownI t x = t.length) := by show _ = _; simp [grownI, Q1.out, q2]
      have EL : Hid (grownL t x = t ++ [x]) := by show _ = _; simp [grownL, Q1.out, q2]
      clear q2
      go_wp2
      go_ret2
      rw [E.out, EL.out]
      exact ⟨_, rfl, O5.out.wide (by omega) z4, K4.out⟩
end Go.Proofs.Ytakhegamlammcaa
