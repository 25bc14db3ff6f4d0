/- The program's methods of elements: rank, ahead, hang, join; they return the plain functions of linked heaps and turn nothing else. No condition beyond that the heaps lie in memory. -/
import Derived.Test.YtnphjohmkjoefaaPb
import Derived.Deep.RegionHeld3
namespace Go.Proofs.Ytnphjohmkjoefaa
open Go.RowKit Go.Sort

set_option maxHeartbeats 400000 in
theorem rankP_any (t : PT) (par : Value) (w : World) (h : Lay w par t) (hn : t.rank ≤ 1000) :
    Calls Try.prog 70 #[t.ptr] w fun e w' => e = .returned (.int .i64 t.rank) ∧ w = w' := by
  have H := Lib.hid h
  clear h
  go_enter Try.func70, Try.ntmps70
  go_wp2
  go_loop [0, 3] (fun p n => ∃ (u : PT) (pu : Value) (k : Nat), p = .pointer u.adr ∧ n = .int .i64 k ∧ Hid (Lay w pu u) ∧ Hid (k + u.rank = t.rank)) (fun _ n => 1001 - (intOf n).toNat)
  case atStart => exact ⟨t, par, 0, rfl, rfl, H, Lib.hid (Nat.zero_add _)⟩
  case round =>
    obtain ⟨u, pu, k, rfl, rfl, HL, HK⟩ := hrel
    cases u with
    | nil =>
      have e : Hid (k = t.rank) := by have := HK.out; show _ = _; simpa [PT.rank] using this
      simp only [PT.adr]
      go_wp2
      go_ret
      exact ⟨ret_int (by rw [e.out]), rfl⟩
    | node g d s l r =>
      have hk : k + 1 ≤ 1000 := by have := HK.out; simp only [PT.rank] at this; omega
      have HK2 : Hid (k + 1 + r.rank = t.rank) := by have := HK.out; simp only [PT.rank] at this; show _ = _; omega
      have HL2 := Lib.hid HL.out.2.2
      have c4 := HL.out.1.cell 4
      simp only [PT.adr]
      simp at c4
      go_wp2
      go_round
      case rel => exact ⟨r, toBlk g, k + 1, rfl, by go_num, HL2, HK2⟩
      case measure => simp [intOf]; omega

set_option maxHeartbeats 400000 in
theorem hang_nil (p : Value) (w : World) :
    Calls Try.prog 53 #[.pointer none, p] w fun e w' => e = .returned (.tuple #[]) ∧ w = w' := by
  go_enter Try.func53, Try.ntmps53
  go_wp2
  go_end0
  exact ⟨rfl, rfl⟩
set_option maxHeartbeats 400000 in
theorem hang_node (p : Value) (g : Nat) (cs : Array Value) (w : World) (h : Blk w g 61 cs) (h5 : cs.size = 5) (hp : ∃ q, p = .pointer q) :
    Calls Try.prog 53 #[toBlk g, p] w fun e w' => e = .returned (.tuple #[]) ∧ w' = w.setCell ⟨g, 2, none⟩ p := by
  obtain ⟨q, rfl⟩ := hp
  have H := Lib.hid h
  have c2 : ∃ v, w.cell? ⟨g, 2, none⟩ = some v := ⟨_, (h.cell 2).trans (Array.getElem?_eq_getElem (by omega))⟩
  obtain ⟨v, c2⟩ := c2
  have f2 := h.frozen 2
  clear h
  go_enter Try.func53, Try.ntmps53
  go_wp2
  go_end0
  exact ⟨rfl, rfl⟩
theorem hangP_any (u : PT) (pu : Value) (q : Option Addr) (w : World) (h : Lay w pu u) (hnd : u.blocks.Nodup) :
    Calls Try.prog 53 #[u.ptr, .pointer q] w fun e w' => e = .returned (.tuple #[]) ∧ Lay w' (.pointer q) u ∧ Turned u.blocks w w' := by
  cases u with
  | nil => exact (hang_nil _ w).mono fun e w' ⟨he, hw⟩ => ⟨he, trivial, by rw [← hw]; exact Turned.refl _ _⟩
  | node g d s l r =>
    refine (hang_node _ g _ w h.1 rfl ⟨_, rfl⟩).mono fun e w' ⟨he, hw⟩ => ⟨he, ?_, ?_⟩
    · rw [hw]
      simp only [PT.blocks, List.nodup_cons, List.mem_append, not_or] at hnd
      exact h.hung hnd.1.1 hnd.1.2
    · rw [hw]; exact (Turned.refl _ _).setCell (by simp [PT.blocks]) _

set_option maxHeartbeats 800000 in
theorem aheadP_any (g g' : Nat) (d s d' s' : Int) (p1 p2 p3 q1 q2 q3 : Value) (w : World) (h : Blk w g 61 #[.int .i64 d, .int .i64 s, p1, p2, p3]) (h' : Blk w g' 61 #[.int .i64 d', .int .i64 s', q1, q2, q3]) :
    Calls Try.prog 55 #[toBlk g, toBlk g'] w fun e w' => e = .returned (.bool (aheadB ⟨d, s, 0⟩ ⟨d', s', 0⟩)) ∧ Turned [] w w' := by
  have c0 : w.cell? ⟨g, 0, none⟩ = some (.int .i64 d) := h.cell 0
  have c1 : w.cell? ⟨g, 1, none⟩ = some (.int .i64 s) := h.cell 1
  have d0 : w.cell? ⟨g', 0, none⟩ = some (.int .i64 d') := h'.cell 0
  have d1 : w.cell? ⟨g', 1, none⟩ = some (.int .i64 s') := h'.cell 1
  clear h h'
  by_cases hd : d = d'
  · have g1 : (d != d') = false := by simpa using hd
    have E : Hid (aheadB ⟨d, s, 0⟩ ⟨d', s', 0⟩ = decide (s < s')) := by show _ = _; simp [aheadB, hd]
    clear hd
    go_enter Try.func55, Try.ntmps55
    go_wp2_with fail
    go_quiet (fail)
    go_wp2_with fail
    go_quiet (fail)
    go_wp2
    go_ret
    exact ⟨ret_bool (by rw [E.out]), ((Turned.refl _ _).drewN _).drewN _⟩
  · have g1 : (d != d') = true := by simpa using hd
    have E : Hid (aheadB ⟨d, s, 0⟩ ⟨d', s', 0⟩ = decide (d < d')) := by show _ = _; simp [aheadB, hd]
    clear hd
    go_enter Try.func55, Try.ntmps55
    go_wp2_with fail
    go_quiet (fail)
    go_wp2_with fail
    go_quiet (fail)
    go_wp2
    go_ret
    exact ⟨ret_bool (by rw [E.out]), ((Turned.refl _ _).drewN _).drewN _⟩

set_option maxHeartbeats 1600000 in
theorem joinP_any (g : Nat) (d s : Int) (par x y : Value) (l r : PT) (pl pr : Value) (w : World) (hb : Blk w g 61 #[.int .i64 d, .int .i64 s, par, x, y]) (hl : Lay w pl l) (hr : Lay w pr r) (hnd : (g :: (l.blocks ++ r.blocks)).Nodup) (hn : l.rank ≤ 1000) (hn' : r.rank ≤ 1000) :
    Calls Try.prog 54 #[toBlk g, l.ptr, r.ptr] w fun e w' => e = .returned (.tuple #[]) ∧ Lay w' par (joinP g d s l r) ∧ Turned (g :: (l.blocks ++ r.blocks)) w w' := by
  have HB := Lib.hid hb
  have Hl := Lib.hid hl
  have Hr := Lib.hid hr
  have HN := Lib.hid (List.nodup_cons.1 hnd)
  have nl := Lib.hid (List.nodup_append.1 HN.out.2).1
  have nr := Lib.hid (List.nodup_append.1 HN.out.2).2.1
  have dislr : Hid (∀ x ∈ l.blocks, x ∉ r.blocks) := fun x hx hy => (List.nodup_append.1 HN.out.2).2.2 x hx x hy rfl
  have disrl : Hid (∀ x ∈ r.blocks, x ∉ l.blocks) := fun x hx hy => dislr.out x hy hx
  have c3 : w.cell? ⟨g, 3, none⟩ = some x := hb.cell 3
  have c4 : w.cell? ⟨g, 4, none⟩ = some y := hb.cell 4
  have f3 := hb.frozen 3
  have f4 := hb.frozen 4
  clear hb hl hr hnd
  go_enter Try.func54, Try.ntmps54
  go_wp2_with fail
  with_reducible refine (rankP_any l pl w Hl.out hn).mono ?_
  rintro e w' ⟨rfl, rfl⟩
  go_wp2_with fail
  with_reducible refine (rankP_any r pr w Hr.out hn').mono ?_
  rintro e w' ⟨rfl, rfl⟩
  by_cases hk : l.rank < r.rank
  · have g1 : decide (l.rank < r.rank) = true := by simpa using hk
    have E : Hid (joinP g d s l r = .node g d s r l) := by show _ = _; rw [joinP, if_pos hk]
    clear hk
    go_wp2_with fail
    have n0 := HN.out
    obtain ⟨V, hV⟩ : ∃ V, V = (w.setCell ⟨g, 3, none⟩ r.ptr).setCell ⟨g, 4, none⟩ l.ptr := ⟨_, rfl⟩
    have TV : Hid (Turned [g] w V) := by show Turned _ _ _; rw [hV]; exact ((Turned.refl _ _).setCell (by simp) _).setCell (by simp) _
    have BV : Hid (Blk V g 61 #[.int .i64 d, .int .i64 s, par, r.ptr, l.ptr]) := by show Blk _ _ _ _; rw [hV]; exact (HB.out.set_ 3 _).set_ 4 _
    have LA := Lib.hid (Hr.out.turned TV.out (fun x hx hy => by simp at hy; subst hy; exact n0.1 (by simp [hx])))
    have LB := Lib.hid (Hl.out.turned TV.out (fun x hx hy => by simp at hy; subst hy; exact n0.1 (by simp [hx])))
    rw [← hV]
    clear hV
    with_reducible refine (hangP_any r pr _ _ LA.out nr.out).mono ?_
    rintro e w1 ⟨rfl, la, ta⟩
    have L1 := Lib.hid la
    have T1 := Lib.hid ta
    clear la ta
    go_wp2_with fail
    with_reducible refine (hangP_any l pl _ _ (LB.out.turned T1.out (fun x hx hy => absurd hx (disrl.out x hy))) nl.out).mono ?_
    rintro e w2 ⟨rfl, lb, tb⟩
    have L2 := Lib.hid lb
    have T2 := Lib.hid tb
    clear lb tb
    go_wp2
    go_end0
    refine ⟨rfl, ?_, ?_⟩
    · rw [E.out]
      refine ⟨(BV.out.turned T1.out (fun hy => n0.1 (by simp [hy]))).turned T2.out (fun hy => n0.1 (by simp [hy])), L1.out.turned T2.out (fun x hx hy => disrl.out x hx hy), L2.out⟩
    · refine ((TV.out.mono (by simp)).trans (T1.out.mono (by intro x hx; simp [hx]))).trans (T2.out.mono (by intro x hx; simp [hx]))
  · have g1 : decide (l.rank < r.rank) = false := by simpa using hk
    have E : Hid (joinP g d s l r = .node g d s l r) := by show _ = _; rw [joinP, if_neg hk]
    clear hk
    go_wp2_with fail
    have n0 := HN.out
    obtain ⟨V, hV⟩ : ∃ V, V = (w.setCell ⟨g, 3, none⟩ l.ptr).setCell ⟨g, 4, none⟩ r.ptr := ⟨_, rfl⟩
    have TV : Hid (Turned [g] w V) := by show Turned _ _ _; rw [hV]; exact ((Turned.refl _ _).setCell (by simp) _).setCell (by simp) _
    have BV : Hid (Blk V g 61 #[.int .i64 d, .int .i64 s, par, l.ptr, r.ptr]) := by show Blk _ _ _ _; rw [hV]; exact (HB.out.set_ 3 _).set_ 4 _
    have LA := Lib.hid (Hl.out.turned TV.out (fun x hx hy => by simp at hy; subst hy; exact n0.1 (by simp [hx])))
    have LB := Lib.hid (Hr.out.turned TV.out (fun x hx hy => by simp at hy; subst hy; exact n0.1 (by simp [hx])))
    rw [← hV]
    clear hV
    with_reducible refine (hangP_any l pl _ _ LA.out nl.out).mono ?_
    rintro e w1 ⟨rfl, la, ta⟩
    have L1 := Lib.hid la
    have T1 := Lib.hid ta
    clear la ta
    go_wp2_with fail
    with_reducible refine (hangP_any r pr _ _ (LB.out.turned T1.out (fun x hx hy => absurd hx (dislr.out x hy))) nr.out).mono ?_
    rintro e w2 ⟨rfl, lb, tb⟩
    have L2 := Lib.hid lb
    have T2 := Lib.hid tb
    clear lb tb
    go_wp2
    go_end0
    refine ⟨rfl, ?_, ?_⟩
    · rw [E.out]
      refine ⟨(BV.out.turned T1.out (fun hy => n0.1 (by simp [hy]))).turned T2.out (fun hy => n0.1 (by simp [hy])), L1.out.turned T2.out (fun x hx hy => dislr.out x hx hy), L2.out⟩
    · refine ((TV.out.mono (by simp)).trans (T1.out.mono (by intro x hx; simp [hx]))).trans (T2.out.mono (by intro x hx; simp [hx]))
end Go.Proofs.Ytnphjohmkjoefaa
