/- The program's step; condition: the propagation is one of a valid spread. -/
import Derived.Test.YtlfbmjfbebbdlaaWr
namespace Go.Proofs.Ytlfbmjfbebbdlaa
open Go.RowKit Go.Sort

/-- Does a step change anything? -/
noncomputable def movedB (t : List Nd) (s : Spr) : Bool := match s.work with
  | [] => false
  | n :: r => toldAt s n || decide (r.length + (belowL t n).length ≤ 240)
theorem moved_nil {t : List Nd} {s : Spr} (h : s.work = []) : movedB t s = false := by unfold movedB; rw [h]
theorem moved_cons {t : List Nd} {s : Spr} {n : Int} {r : List Int} (h : s.work = n :: r) : movedB t s = (toldAt s n || decide (r.length + (belowL t n).length ≤ 240)) := by unfold movedB; rw [h]
section
variable {w w' : World} {lo b g c d j x : Nat} {A D : Option Addr} {t : List Nd} {s : Spr}
/-- One told more. -/
theorem Ntf.tell (h : Ntf w lo b g A c t (some ⟨x, 0, none⟩) d s) (j : Nat) : Ntf (w.setCell ⟨x, j, none⟩ (.bool true)) lo b g A c t (some ⟨x, 0, none⟩) d ⟨s.told.set j true, s.work⟩ := by
  obtain ⟨cs, hx⟩ := row_blk h.told (b := x) rfl
  obtain ⟨cr, hr⟩ := h.ring.blk
  have hlo := own_row_lo h.told x rfl
  have n1 := blk_ne h.blk hx (by decide)
  have n2 := blk_ne hr hx (by decide)
  have hk := kept_set1 w x j (.bool true)
  refine ⟨?_, h.tree.kept h.top hk (.inr hlo.1), ?_, h.ring.kept hk (by omega), h.hb, h.hg⟩
  · have := blk_beside h.blk n1 hk
    show Blk _ b _ #[.slice A t.length c, .slice (some ⟨x, 0, none⟩) (s.told.set j true).length d, .pointer (some ⟨g, 0, none⟩)]
    rw [List.length_set]; exact this
  · show World.ownsRow _ lo _ 1 (.slice (some ⟨x, 0, none⟩) (s.told.set j true).length d) (s.told.set j true).length _
    rw [List.length_set]
    exact own_putB h.told j true
theorem Ntf.rng (h : Ntf w lo b g A c t D d s) : lo ≤ g ∧ g < w.heap.size := ⟨h.hg, h.ring.lt⟩
end

set_option maxHeartbeats 3200000 in
set_option maxRecDepth 100000 in
theorem stepN_any (w : World) (lo b g c d : Nat) (A D : Option Addr) (t : List Nd) (s : Spr) (h : Ntf w lo b g A c t D d s) (o : SprP t s) :
    Calls Try.prog 41 #[.pointer (some ⟨b, 0, none⟩)] w fun e w' => e = .returned (.tuple #[.int .i64 (stepP t s).2, .bool (movedB t s)]) ∧ Ntf w' lo b g A c t D d (stepP t s).1 ∧ Kept lo w.heap.size w w' := by
  have H := Lib.hid h
  have HP := Lib.hid o
  have n2 := h.n2
  have cc := h.ring.c2
  have hrg := h.rng
  clear h o
  rcases hw : s.work with _ | ⟨n, r⟩
  · have E1 : Hid (stepP t s = (s, -1)) := step_nil hw
    have E2 : Hid (movedB t s = false) := moved_nil hw
    have c2 : w.cell? ⟨g, 241, none⟩ = some (.int .i64 0) := by rw [cc, hw]; rfl
    clear hw cc
    go_enter Try.func41, Try.ntmps41
    go_wp2
    go_ret2
    rw [E1.out, E2.out]
    exact ⟨rfl, H.out, Kept.refl _ _ _⟩
  have q0 : (((r.length : Int) + 1) == 0) = false := by simp; omega
  have c2 : w.cell? ⟨g, 241, none⟩ = some (.int .i64 ((r.length : Int) + 1)) := by rw [cc, hw]; rfl
  clear cc
  have RQ : Hid (RingQ w g (n :: r)) := by rw [← hw]; exact H.out.ring
  have HW := Lib.hid hw
  have rl : r.length + 1 ≤ 240 := by have := HP.out.cap; rw [hw] at this; simpa using this
  have hin := HP.out.work 0 (by rw [hw]; simp)
  have hn0 : s.work[0]'(by rw [hw]; simp) = n := by simp [hw]
  rw [hn0] at hin
  obtain ⟨j, rfl⟩ := Int.eq_ofNat_of_zero_le hin.1
  have hj : j < s.told.length := by have := HP.out.told; omega
  clear hin hn0 hw
  have CF := Lib.hid (front_any g (j : Int) r w RQ.out)
  obtain ⟨x, rfl, hx1, hx2, hx3⟩ : ∃ x, D = some ⟨x, 0, none⟩ ∧ lo ≤ x ∧ x < w.heap.size ∧ x < w.heap.size := by
    rcases (OwnZ.of_row H.out.told).form with ⟨_, h0, _⟩ | h'
    · exfalso; omega
    · exact h'
  go_enter Try.func41, Try.ntmps41
  go_wp2_with fail
  with_reducible refine CF.out.mono ?_
  rintro e w1 ⟨rfl, hk⟩
  have H1 := Lib.hid (H.out.same hk)
  have R1 := Lib.hid (RQ.out.kept hk (.inl (Nat.le_refl _)))
  have K1 := Lib.hid hk
  have z1 := hk.size
  clear hk CF n2 c2 RQ
  have n1 := H1.out.n1
  have n2 := H1.out.n2
  have i1 : (j : Int) < (s.told.length : Int) := by omega
  have c0 : w1.cell? ⟨x, j, none⟩ = some (.bool s.told[j]) := by
    have := own_at (R := bR) H1.out.told hj 0 (u := .bool s.told[j]) rfl
    rwa [bR_k, Nat.mul_one, Nat.add_zero] at this
  rcases hq : s.told[j] with _ | _
  case true =>
    have h8 : toldAt s (j : Int) = true := by rw [toldAt_nat hj]; exact hq
    have E1 : Hid (stepP t s = ((⟨s.told, r⟩ : Spr), (-1 : Int))) := step_told HW.out h8
    have E2 : Hid (movedB t s = true) := by show _ = _; rw [moved_cons HW.out, h8]; rfl
    rw [hq] at c0
    have CD := Lib.hid (drop_any g _ r w1 R1.out)
    clear hq h8
    go_wp2_with fail
    with_reducible refine CD.out.mono ?_
    rintro e w2 ⟨rfl, hr, hk⟩
    have N2 := Lib.hid (H1.out.ringed hk hr)
    have K2 := Lib.hid ((K1.out.wide (lo' := lo) (hi' := w.heap.size) (.inl (Nat.le_refl _))).trans (hk.wide (lo' := lo) (hi' := w.heap.size) (.inr (by omega))))
    clear hk hr
    go_wp2_with fail
    go_ret2
    rw [E1.out, E2.out]
    exact ⟨rfl, N2.out, K2.out⟩
  case false =>
    have h8 : toldAt s (j : Int) = false := by rw [toldAt_nat hj]; exact hq
    have H8 := Lib.hid h8
    rw [hq] at c0
    clear hq h8
    have CR := Lib.hid (reached_any w1 lo b g c d A _ t s (j : Int) H1.out)
    go_upto_region 7 with fail
    go_wp2_with fail
    with_reducible refine CR.out.mono ?_
    rintro e w2 ⟨_, rfl, ⟨D3, d3, rfl, o3⟩, hk⟩
    obtain ⟨bl, hbl⟩ : ∃ bl, bl = belowL t j := ⟨_, rfl⟩
    rw [← hbl] at o3
    rw [← hbl]
    have bl60 : bl.length ≤ 60 := by rw [hbl]; exact belowL_len t j
    have O3 := Lib.hid o3
    have H2 := Lib.hid (H1.out.same hk)
    have R2 := Lib.hid (R1.out.kept hk (.inl (Nat.le_refl _)))
    have K2 := Lib.hid (K1.out.trans hk)
    have z2 := hk.size
    have HB := Lib.hid hbl
    clear o3 hk CR n1 n2 c0 H1 R1 K1 hbl
    have n2 := H2.out.n2
    have CM : Hid (Calls Try.prog 38 #[.pointer (some ⟨g, 0, none⟩)] w2 fun e w' => e = .returned (.int .i64 (240 - ((r.length : Int) + 1))) ∧ w2 = w') := by
      have := room_any g _ w2 R2.out
      simp only [List.length_cons] at this
      rw [Int.natCast_add, Int.natCast_one] at this
      exact this
    go_upto_region 8 with fail
    go_wp2_with fail
    with_reducible refine CM.out.mono ?_
    rintro e w' ⟨rfl, rfl⟩
    clear CM
    rcases Nat.lt_or_ge 240 (r.length + bl.length) with h9 | h9
    · have E1 : Hid (stepP t s = (s, -1)) := step_full HW.out H8.out (by rw [← HB.out]; exact h9)
      have E2 : Hid (movedB t s = false) := by show _ = _; rw [moved_cons HW.out, H8.out, ← HB.out]; simp; omega
      have g9 : decide ((240 : Int) - ((r.length : Int) + 1) + 1 < (bl.length : Int)) = true := by simp; omega
      clear h9
      go_wp2_with fail
      go_ret2
      rw [E1.out, E2.out]
      exact ⟨rfl, H2.out, K2.out.wide (.inl (Nat.le_refl _))⟩
    · have E1 : Hid (stepP t s = ((⟨s.told.set j true, r ++ bl⟩ : Spr), (j : Int))) := by
        show _ = _
        rw [step_new HW.out H8.out (by rw [← HB.out]; exact h9), ← HB.out]
        simp
      have E2 : Hid (movedB t s = true) := by show _ = _; rw [moved_cons HW.out, H8.out, ← HB.out]; simp; omega
      have g9 : decide ((240 : Int) - ((r.length : Int) + 1) + 1 < (bl.length : Int)) = false := by simp; omega
      have H9 := Lib.hid h9
      have CD := Lib.hid (drop_any g _ r w2 R2.out)
      clear h9
      go_wp2_with fail
      with_reducible refine CD.out.mono ?_
      rintro e w3 ⟨rfl, hr, hk⟩
      have N3 := Lib.hid (H2.out.ringed hk hr)
      have K3 := Lib.hid (hk.wide (lo' := lo) (hi' := w.heap.size) (.inr (by omega)))
      clear hk hr CD n2 H2 R2
      have n1 := N3.out.n1
      have c0 : w3.cell? ⟨x, j, none⟩ = some (.bool s.told[j]) := by
        have := own_at (R := bR) N3.out.told hj 0 (u := .bool s.told[j]) rfl
        rwa [bR_k, Nat.mul_one, Nat.add_zero] at this
      have f0 : w3.frozen? ⟨x, j, none⟩ = false := N3.out.told.frozenAt _
      have N4 := Lib.hid (N3.out.tell j)
      have K4 := Lib.hid (K3.out.trans ((kept_set1 w3 x j (.bool true)).wide (lo' := lo) (hi' := w.heap.size) (.inr (by omega))))
      obtain ⟨V, hV⟩ : ∃ V, V = w3.setCell ⟨x, j, none⟩ (.bool true) := ⟨_, rfl⟩
      rw [← hV] at N4 K4
      have HV := Lib.hid hV
      clear hV
      go_upto_region 12 with fail
      rw [← HV.out]
      clear HV n1 c0 f0 N3 K3
      have O3' := Lib.hid (OwnZ.rd (R := iR) O3.out).2
      go_wp2_with fail
      go_loopw [58] (fun i wr => ∃ k : Nat, k ≤ bl.length ∧ i = .int .i64 k ∧ Hid (Ntf wr lo b g A c t (some ⟨x, 0, none⟩) d ⟨s.told.set j true, r ++ bl.take k⟩) ∧ Hid (Kept lo w.heap.size w2 wr)) (fun i _ => bl.length - (intOf i).toNat)
      case atStart => exact ⟨0, Nat.zero_le _, rfl, by rw [List.take_zero, List.append_nil]; exact N4, K4⟩
      case round =>
        clear N4 K4
        obtain ⟨k, hk, rfl, HN, HK⟩ := hrel
        by_cases hlt : k < bl.length
        · have O5 := O3.out.kept HK.out (.inr (.inr (by omega)))
          obtain ⟨ad, rfl, _, c0⟩ := ((OwnZ.rd (R := iR) O5).2).i hlt
          have i2 : (k : Int) < (bl.length : Int) := by omega
          obtain ⟨y, hy⟩ : ∃ y, y = bl[k] := ⟨_, rfl⟩
          rw [← hy] at c0
          have E : Hid (r ++ bl.take k ++ [y] = r ++ bl.take (k + 1)) := by show _ = _; rw [List.take_succ_eq_append_getElem hlt, hy, List.append_assoc]
          have n2 := HN.out.n2
          have CP := Lib.hid (push_any g (r ++ bl.take k) y wr HN.out.ring (by have := H9.out; simp; omega))
          clear hy O5
          go_wp2_with fail
          with_reducible refine CP.out.mono ?_
          rintro e w5 ⟨rfl, hr, hk5⟩
          have N2 : Hid (Ntf w5 lo b g A c t (some ⟨x, 0, none⟩) d ⟨s.told.set j true, r ++ bl.take (k + 1)⟩) := by
            rw [← E.out]
            exact HN.out.ringed hk5 hr
          have K4 := Lib.hid (HK.out.trans (hk5.wide (lo' := lo) (hi' := w.heap.size) (.inr (by omega))))
          clear hr hk5 HN HK n2 c0 CP
          go_wp2_with fail
          go_roundw
          case rel => exact ⟨k + 1, by omega, by go_num, N2, K4⟩
          case measure => simp [intOf]; omega
        · have N2 : Hid (Ntf wr lo b g A c t (some ⟨x, 0, none⟩) d ⟨s.told.set j true, r ++ bl⟩) := by
            have := HN.out
            rw [List.take_of_length_le (by omega)] at this
            exact this
          go_wp2
          go_ret2
          rw [E1.out, E2.out]
          exact ⟨rfl, N2.out, (K2.out.wide (lo' := lo) (hi' := w.heap.size) (.inl (Nat.le_refl _))).trans HK.out⟩
end Go.Proofs.Ytlfbmjfbebbdlaa
