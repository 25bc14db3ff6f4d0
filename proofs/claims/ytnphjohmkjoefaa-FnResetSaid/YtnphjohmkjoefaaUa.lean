/- The draws of timers: what they hold in memory, and that what they make is valid; no function is named here. -/
import Derived.Test.YtnphjohmkjoefaaRg
namespace Go.Proofs.Ytnphjohmkjoefaa
open Go.RowKit Go.Sort

/-- Valid timers whose next Seq is at most m. -/
structure Good (T : Tms) (m : Int) : Prop where
  ok : TmsOk T
  le : T.next ≤ m
theorem Good.okB {T : Tms} {m : Int} (h : Good T m) : timersOkB T = true := timersOk_yes h.ok
theorem stop_good {T : Tms} {m : Int} (h : Good T m) (q : Int) : Good (stopL T q) m := by
  rw [stopL, h.okB, if_pos rfl, stoppedT]
  cases ha : atL T.list q with
  | none => exact h
  | some k => exact ⟨stop_ok h.ok ha, h.le⟩
theorem reset_good {T : Tms} {m : Int} (h : Good T m) (q d : Int) : Good (resetL T q d) m := by
  rw [resetL, h.okB, if_pos rfl, resetT]
  cases ha : atL T.list q with
  | none => exact h
  | some k => exact ⟨reset_ok h.ok ha, h.le⟩
theorem forget_good {T : Tms} {m : Int} (h : Good T m) (q : Int) : Good (forgetL T q) m := by
  rw [forgetL, h.okB, if_pos rfl, forgetT]
  cases ha : atL T.list q with
  | none => exact h
  | some k => exact ⟨forget_ok h.ok ha, h.le⟩
theorem fired_good {T : Tms} {m : Int} (h : Good T m) (now : Int) : Good (firedL T now) m := by
  rw [firedL, h.okB, if_pos rfl]
  refine ⟨fired_ok h.ok now, ?_⟩
  have hl := h.le
  unfold firedT
  cases firedAt T now with
  | none => exact hl
  | some k => exact hl
theorem arm_good {T : Tms} {m : Int} (h : Good T m) (p q r : Int) : Good (armL T p q r) (m + 1) := by
  rw [armL, h.okB, if_pos rfl]
  have hl := h.le
  cases ha : armOk T p q r
  · exact ⟨h.ok, by simp; omega⟩
  · exact ⟨arm_ok h.ok ha, by simp; omega⟩
theorem new_good (r : Nat) (hr : r ≤ 1000000) : Good ⟨[], [], (r : Int)⟩ r := by
  have z := zero_ok
  exact ⟨⟨z.heap, by simp, ⟨by simp, by simp; omega⟩, by simp, by simp, by simp, by simp⟩, Int.le_refl _⟩

/-- What a draw of timers has in memory: the cursor, the result's box, the timers T in a box. -/
structure TimSt (w wr : World) (g : Nat) (A : Option Addr) (c : Nat) (xs : List Int) (bt : Nat) (D1 : Option Addr) (d1 : Nat) (D2 : Option Addr) (d2 : Nat) (T : Tms) : Prop where
  cur : Cur wr g A c xs
  res : Blk wr w.heap.size 27 #[.slice none 0 0, .slice none 0 0, .int .i64 0]
  box : Blk wr bt 27 #[.slice D1 T.heap.length d1, .slice D2 T.list.length d2, .int .i64 T.next]
  own : OwnM wr w.heap.size wr.heap.size (.agg #[.slice D1 T.heap.length d1, .slice D2 T.list.length d2, .int .i64 T.next]) T
  kept : Kept g (g + 1) w wr
  hg : g < w.heap.size
  hbt : w.heap.size < bt
section
variable {w wr wr' : World} {g c bt d1 d2 : Nat} {A D1 D2 : Option Addr} {xs : List Int} {T : Tms}
theorem TimSt.draw (h : TimSt w wr g A c xs bt D1 d1 D2 d2 T) (hc : Cur wr' g A c xs) (hk : Kept g (g + 1) wr wr') : TimSt w wr' g A c xs bt D1 d1 D2 d2 T :=
  ⟨hc, h.res.kept hk (by have := h.hg; omega), h.box.kept hk (by have := h.hg; have := h.hbt; omega), (h.own.kept hk (.inr (.inr h.hg))).wide (Nat.le_refl _) hk.size, h.kept.trans hk, h.hg, h.hbt⟩
theorem TimSt.same (h : TimSt w wr g A c xs bt D1 d1 D2 d2 T) (hk : Kept 0 0 wr wr') : TimSt w wr' g A c xs bt D1 d1 D2 d2 T :=
  ⟨h.cur.kept hk (.inl (Nat.le_refl _)), h.res.kept hk (.inl (Nat.le_refl _)), h.box.kept hk (.inl (Nat.le_refl _)), (h.own.kept hk (.inl (Nat.le_refl _))).wide (Nat.le_refl _) hk.size, h.kept.trans (hk.wide (.inl (Nat.le_refl _))), h.hg, h.hbt⟩
theorem kept_set3 (w : World) (b : Nat) (v0 v1 v2 : Value) : Kept b (b + 1) w (((w.setCell ⟨b, 0, none⟩ v0).setCell ⟨b, 1, none⟩ v1).setCell ⟨b, 2, none⟩ v2) := by
  have s : ∀ {V : World} (i : Nat) (v : Value), Kept b (b + 1) w V → Kept b (b + 1) w (V.setCell ⟨b, i, none⟩ v) := fun i v k => Kept.setCell k (p := ⟨b, i, none⟩) (.inr ⟨Nat.le_refl _, Nat.lt_succ_self _⟩) v
  exact s 2 v2 (s 1 v1 (s 0 v0 (Kept.refl _ _ w)))
theorem ownM_blk {w w' : World} {lo hi b : Nat} {v : Value} {T : Tms} {cs : Array Value} (h : OwnM w lo hi v T) (hb : Blk w b 27 cs) (hk : Kept b (b + 1) w w') : OwnM w' lo hi v T := by
  obtain ⟨hv, lv, rfl, ⟨D1, d1, rfl, a⟩, ⟨D2, d2, rfl, e⟩⟩ := h
  exact ⟨_, _, rfl, ⟨D1, d1, rfl, row_other a.1 (row_ne a.1 hb (by decide)) hk, a.2⟩, ⟨D2, d2, rfl, row_other e.1 (row_ne e.1 hb (by decide)) hk, e.2⟩⟩
/-- New timers are stored in the box. -/
theorem TimSt.put (h : TimSt w wr g A c xs bt D1 d1 D2 d2 T) {N : Tms} {D3 D4 : Option Addr} {d3 d4 lo hi : Nat} (hl : w.heap.size ≤ lo) (hh : hi ≤ wr.heap.size) (ho : OwnM wr lo hi (.agg #[.slice D3 N.heap.length d3, .slice D4 N.list.length d4, .int .i64 N.next]) N) :
    TimSt w (((wr.setCell ⟨bt, 0, none⟩ (.slice D3 N.heap.length d3)).setCell ⟨bt, 1, none⟩ (.slice D4 N.list.length d4)).setCell ⟨bt, 2, none⟩ (.int .i64 N.next)) g A c xs bt D3 d3 D4 d4 N := by
  have k := kept_set3 wr bt (.slice D3 N.heap.length d3) (.slice D4 N.list.length d4) (.int .i64 N.next)
  have h1 := h.hg
  have h2 := h.hbt
  exact ⟨h.cur.kept k (.inr (by omega)), h.res.kept k (by omega), ((h.box.set_ 0 _).set_ 1 _).set_ 2 _, (ownM_blk ho h.box k).wide hl (Nat.le_trans hh k.size), h.kept.trans2 k (.inr (by omega)), h.hg, h.hbt⟩
/-- The result is stored in its box. -/
theorem TimSt.out (h : TimSt w wr g A c xs bt D1 d1 D2 d2 T) :
    Blk (((wr.setCell ⟨w.heap.size, 0, none⟩ (.slice D1 T.heap.length d1)).setCell ⟨w.heap.size, 1, none⟩ (.slice D2 T.list.length d2)).setCell ⟨w.heap.size, 2, none⟩ (.int .i64 T.next)) w.heap.size 27 #[.slice D1 T.heap.length d1, .slice D2 T.list.length d2, .int .i64 T.next] ∧
    OwnM (((wr.setCell ⟨w.heap.size, 0, none⟩ (.slice D1 T.heap.length d1)).setCell ⟨w.heap.size, 1, none⟩ (.slice D2 T.list.length d2)).setCell ⟨w.heap.size, 2, none⟩ (.int .i64 T.next)) w.heap.size (((wr.setCell ⟨w.heap.size, 0, none⟩ (.slice D1 T.heap.length d1)).setCell ⟨w.heap.size, 1, none⟩ (.slice D2 T.list.length d2)).setCell ⟨w.heap.size, 2, none⟩ (.int .i64 T.next)).heap.size (.agg #[.slice D1 T.heap.length d1, .slice D2 T.list.length d2, .int .i64 T.next]) T ∧
    Cur (((wr.setCell ⟨w.heap.size, 0, none⟩ (.slice D1 T.heap.length d1)).setCell ⟨w.heap.size, 1, none⟩ (.slice D2 T.list.length d2)).setCell ⟨w.heap.size, 2, none⟩ (.int .i64 T.next)) g A c xs ∧
    Kept g (g + 1) w (((wr.setCell ⟨w.heap.size, 0, none⟩ (.slice D1 T.heap.length d1)).setCell ⟨w.heap.size, 1, none⟩ (.slice D2 T.list.length d2)).setCell ⟨w.heap.size, 2, none⟩ (.int .i64 T.next)) := by
  have k := kept_set3 wr w.heap.size (.slice D1 T.heap.length d1) (.slice D2 T.list.length d2) (.int .i64 T.next)
  have h1 := h.hg
  exact ⟨((h.res.set_ 0 _).set_ 1 _).set_ 2 _, (ownM_blk h.own h.res k).wide (Nat.le_refl _) k.size, h.cur.kept k (.inr (by omega)), h.kept.trans2 k (.inr (Nat.le_refl _))⟩
end
end Go.Proofs.Ytnphjohmkjoefaa
