/- The program's queue, a ring in an array behind a pointer: how it lies in memory, and its methods; no condition beyond that the ring lies in memory. -/
import Derived.Test.YtlfbmjfbebbdlaaNi
import Derived.Deep.CondSized
import Derived.OwnWalk
import Derived.Deep.DeepCutAuto
import Derived.Deep.RegionLaw
import Derived.Deep.RegionHeld3
namespace Go.Proofs.Ytlfbmjfbebbdlaa
open Go.RowKit Go.Sort

def ringCells (cs : List Int) (f n : Nat) : List Value := cs.map (Value.int .i64) ++ [.int .i64 f, .int .i64 n]
/-- The queue q in the ring in block g, its first element in cell f. -/
structure Ring (w : World) (g : Nat) (cs : List Int) (f : Nat) (q : List Int) : Prop where
  len : cs.length = 240
  first : f < 240
  cap : q.length ≤ 240
  lies : ∀ i (h : i < q.length), cs[(f + i) % 240]? = some q[i]
  blk : Blk w g 92 (ringCells cs f q.length).toArray
def RingQ (w : World) (g : Nat) (q : List Int) : Prop := ∃ cs f, Ring w g cs f q
section
variable {w w' : World} {g f lo hi : Nat} {cs q : List Int}
theorem Ring.c0 (h : Ring w g cs f q) {j : Nat} (hj : j < 240) : w.cell? ⟨g, j, none⟩ = some (.int .i64 (cs[j]'(by rw [h.len]; exact hj))) := by
  have hl := h.len
  rw [h.blk.cell j]
  simp [ringCells, List.getElem?_append_left (show j < (cs.map (Value.int .i64)).length by simp; omega), List.getElem?_eq_getElem (show j < cs.length by omega)]
theorem Ring.c1 (h : Ring w g cs f q) : w.cell? ⟨g, 240, none⟩ = some (.int .i64 f) := by
  have hl := h.len
  rw [h.blk.cell 240]
  simp [ringCells, hl]
theorem Ring.c2 (h : Ring w g cs f q) : w.cell? ⟨g, 241, none⟩ = some (.int .i64 q.length) := by
  have hl := h.len
  rw [h.blk.cell 241]
  simp [ringCells, hl]
theorem Ring.lt (h : Ring w g cs f q) : g < w.heap.size := h.blk.lt
theorem Ring.kept (h : Ring w g cs f q) (hk : Kept lo hi w w') (hr : hi ≤ lo ∨ g < lo ∨ hi ≤ g) : Ring w' g cs f q := ⟨h.len, h.first, h.cap, h.lies, h.blk.kept hk hr⟩
theorem RingQ.kept (h : RingQ w g q) (hk : Kept lo hi w w') (hr : hi ≤ lo ∨ g < lo ∨ hi ≤ g) : RingQ w' g q := by obtain ⟨cs, f, h⟩ := h; exact ⟨cs, f, h.kept hk hr⟩
theorem RingQ.lt (h : RingQ w g q) : g < w.heap.size := by obtain ⟨cs, f, h⟩ := h; exact h.lt
theorem RingQ.cap (h : RingQ w g q) : q.length ≤ 240 := by obtain ⟨cs, f, h⟩ := h; exact h.cap
theorem RingQ.c2 (h : RingQ w g q) : w.cell? ⟨g, 241, none⟩ = some (.int .i64 q.length) := by obtain ⟨cs, f, h⟩ := h; exact h.c2
theorem kept_set1 (w : World) (g i : Nat) (u : Value) : Kept g (g + 1) w (w.setCell ⟨g, i, none⟩ u) := (Kept.refl g (g + 1) w).setCell (p := ⟨g, i, none⟩) (.inr ⟨Nat.le_refl _, Nat.lt_succ_self _⟩) u
theorem ring_set0 (cs : List Int) (f n j : Nat) (x : Int) (hl : cs.length = 240) (hj : j < 240) : (ringCells cs f n).set j (.int .i64 x) = ringCells (cs.set j x) f n := by
  unfold ringCells
  rw [List.set_append_left _ _ (by simp; omega), List.map_set]
theorem ring_set1 (cs : List Int) (f n m : Nat) (hl : cs.length = 240) : (ringCells cs f n).set 240 (.int .i64 m) = ringCells cs m n := by
  unfold ringCells
  rw [List.set_append_right _ _ (by simp; omega)]
  simp [hl]
theorem ring_set2 (cs : List Int) (f n m : Nat) (hl : cs.length = 240) : (ringCells cs f n).set 241 (.int .i64 m) = ringCells cs f m := by
  unfold ringCells
  rw [List.set_append_right _ _ (by simp; omega)]
  simp [hl]
/-- The cells behind an element put at the end. -/
theorem Ring.pushed (h : Ring w g cs f q) (hq : q.length < 240) (n : Int) : Ring ((w.setCell ⟨g, (f + q.length) % 240, none⟩ (.int .i64 n)).setCell ⟨g, 241, none⟩ (.int .i64 (q.length + 1 : Nat))) g (cs.set ((f + q.length) % 240) n) f (q ++ [n]) := by
  have hj : (f + q.length) % 240 < 240 := Nat.mod_lt _ (by decide)
  refine ⟨by simp [h.len], h.first, by simp; omega, fun i hi => ?_, ?_⟩
  · simp at hi
    rcases Nat.lt_or_ge i q.length with h1 | h1
    · have hne : (f + q.length) % 240 ≠ (f + i) % 240 := by have := h.first; omega
      rw [List.getElem?_set_ne hne, h.lies i h1, List.getElem_append_left h1]
    · obtain rfl : i = q.length := by omega
      rw [List.getElem?_set_self (by rw [h.len]; exact hj)]
      simp
  · have b := (h.blk.set_ ((f + q.length) % 240) (.int .i64 n)).set_ 241 (.int .i64 (q.length + 1 : Nat))
    simp only [List.setIfInBounds_toArray] at b
    rw [ring_set0 _ _ _ _ _ h.len hj, ring_set2 _ _ _ _ (by simp [h.len])] at b
    rw [List.length_append]
    exact b
/-- The cells behind the first element taken away. -/
theorem Ring.dropped {x : Int} {r : List Int} (h : Ring w g cs f (x :: r)) : Ring ((w.setCell ⟨g, 240, none⟩ (.int .i64 ((f + 1) % 240 : Nat))).setCell ⟨g, 241, none⟩ (.int .i64 r.length)) g cs ((f + 1) % 240) r := by
  refine ⟨h.len, Nat.mod_lt _ (by decide), by have := h.cap; simp at this; omega, fun i hi => ?_, ?_⟩
  · have h1 := h.lies (i + 1) (by simpa using hi)
    rw [show ((f + 1) % 240 + i) % 240 = (f + (i + 1)) % 240 by omega]
    simpa using h1
  · have b := (h.blk.set_ 240 (.int .i64 ((f + 1) % 240 : Nat))).set_ 241 (.int .i64 r.length)
    simp only [List.setIfInBounds_toArray] at b
    rw [ring_set1 _ _ _ _ h.len, ring_set2 _ _ _ _ h.len] at b
    exact b
/-- A new ring is empty. -/
theorem Ring.zero (h : Blk w g 92 (ringCells (List.replicate 240 0) 0 0).toArray) : Ring w g (List.replicate 240 0) 0 [] := ⟨List.length_replicate, by decide, by simp, fun i hi => by simp at hi, h⟩
end

set_option maxHeartbeats 400000 in
theorem cellAt_any (g f : Nat) (cs q : List Int) (k : Nat) (w : World) (h : Ring w g cs f q) (hk : k ≤ 1000) :
    Calls Try.prog 65 #[.pointer (some ⟨g, 0, none⟩), .int .i64 k] w fun e w' => e = .returned (.int .i64 (((f + k) % 240 : Nat) : Int)) ∧ w = w' := by
  have c1 := h.c1
  have hf := h.first
  go_enter Try.func65, Try.ntmps65
  go_wp2
  go_ret
  exact ⟨ret_int (by omega), rfl⟩
set_option maxHeartbeats 400000 in
theorem room_any (g : Nat) (q : List Int) (w : World) (h : RingQ w g q) :
    Calls Try.prog 38 #[.pointer (some ⟨g, 0, none⟩)] w fun e w' => e = .returned (.int .i64 (240 - (q.length : Int))) ∧ w = w' := by
  have c2 := h.c2
  have hq := h.cap
  go_enter Try.func38, Try.ntmps38
  go_wp2
  go_ret
  exact ⟨rfl, rfl⟩
set_option maxHeartbeats 800000 in
theorem front_any (g : Nat) (x : Int) (r : List Int) (w : World) (h : RingQ w g (x :: r)) :
    Calls Try.prog 66 #[.pointer (some ⟨g, 0, none⟩)] w fun e w' => e = .returned (.int .i64 x) ∧ Kept 0 0 w w' := by
  obtain ⟨cs, f, h⟩ := h
  have c1 := h.c1
  have hf := h.first
  have c0 := h.c0 hf
  have hx : cs[f]'(by rw [h.len]; exact hf) = x := by
    have h1 := h.lies 0 (by simp)
    rw [Nat.add_zero, Nat.mod_eq_of_lt hf, List.getElem?_eq_getElem (by rw [h.len]; exact hf)] at h1
    simpa using h1
  rw [hx] at c0
  have i1 : (0 : Int) ≤ (f : Int) := by omega
  have i2 : (f : Int) < 240 := by omega
  clear h hx
  go_enter Try.func66, Try.ntmps66
  go_upto_region 1 with fail
  go_region
  go_wp2
  go_ret
  exact ⟨rfl, (Kept.refl _ _ _).drew⟩

theorem Ring.drew {w : World} {g f : Nat} {cs q : List Int} (h : Ring w g cs f q) : Ring w.drew g cs f q := ⟨h.len, h.first, h.cap, h.lies, h.blk.drew⟩
set_option maxHeartbeats 1600000 in
theorem push_any (g : Nat) (q : List Int) (n : Int) (w : World) (h : RingQ w g q) (hq : q.length < 240) :
    Calls Try.prog 40 #[.pointer (some ⟨g, 0, none⟩), .int .i64 n] w fun e w' => e = .returned (.tuple #[]) ∧ RingQ w' g (q ++ [n]) ∧ Kept g (g + 1) w w' := by
  obtain ⟨cs, f, h⟩ := h
  have HR := Lib.hid h
  have hf := h.first
  have c2 := h.c2
  have hj : (f + q.length) % 240 < 240 := Nat.mod_lt _ (by decide)
  obtain ⟨j, hjj⟩ : ∃ j, j = (f + q.length) % 240 := ⟨_, rfl⟩
  rw [← hjj] at hj
  obtain ⟨v0, c0⟩ : ∃ v, w.cell? ⟨g, j, none⟩ = some (.int .i64 v) := ⟨_, h.c0 hj⟩
  have f0 := h.blk.frozen j
  have HJ := Lib.hid hjj
  have CA := Lib.hid (cellAt_any g f cs q q.length w.drew h.drew (by omega))
  rw [← hjj] at CA
  have i1 : (0 : Int) ≤ (j : Int) := by omega
  have i2 : (j : Int) < 240 := by omega
  clear h hjj
  go_enter Try.func40, Try.ntmps40
  go_upto_region 0 with fail
  go_region_law (first
    | (go_simp; go_at_call 65; with_reducible refine CA.out.mono ?_; rintro e w1 ⟨rfl, hw1⟩; subst hw1))
  clear c0 f0 c2 CA
  obtain ⟨V, hV⟩ : ∃ V, V = (w.setCell ⟨g, j, none⟩ (.int .i64 n)).drew := ⟨_, rfl⟩
  have BV : Blk V g 92 (ringCells (cs.set j n) f q.length).toArray := by
    have b := HR.out.blk.set_ j (.int .i64 n)
    simp only [List.setIfInBounds_toArray] at b
    rw [ring_set0 _ _ _ _ _ HR.out.len hj] at b
    rw [hV]
    exact b.drew
  have c2 : V.cell? ⟨g, 241, none⟩ = some (.int .i64 q.length) := by
    rw [BV.cell 241]
    simp [ringCells, HR.out.len]
  have f2 := BV.frozen 241
  have RF : Hid (RingQ (V.setCell ⟨g, 241, none⟩ (.int .i64 (q.length + 1 : Nat))) g (q ++ [n])) := by
    have h := HR.out.pushed hq n
    rw [← HJ.out] at h
    refine ⟨_, _, ⟨h.len, h.first, h.cap, h.lies, ?_⟩⟩
    rw [hV]
    exact h.blk
  have KF : Hid (Kept g (g + 1) w (V.setCell ⟨g, 241, none⟩ (.int .i64 (q.length + 1 : Nat)))) := by
    show Kept _ _ _ _
    rw [hV]
    exact ((kept_set1 w g j _).drew).trans (kept_set1 _ g 241 _)
  rw [← hV]
  clear hV BV
  go_wp2_with fail
  go_end0
  exact ⟨rfl, by simpa using RF.out, by simpa using KF.out⟩

set_option maxHeartbeats 1600000 in
theorem drop_any (g : Nat) (x : Int) (r : List Int) (w : World) (h : RingQ w g (x :: r)) :
    Calls Try.prog 67 #[.pointer (some ⟨g, 0, none⟩)] w fun e w' => e = .returned (.tuple #[]) ∧ RingQ w' g r ∧ Kept g (g + 1) w w' := by
  obtain ⟨cs, f, h⟩ := h
  have HR := Lib.hid h
  have hq := h.cap
  simp at hq
  have c1 := h.c1
  have f1 := h.blk.frozen 240
  obtain ⟨j, hjj⟩ : ∃ j, j = (f + 1) % 240 := ⟨_, rfl⟩
  have CA : Hid (Calls Try.prog 65 #[.pointer (some ⟨g, 0, none⟩), .int .i64 1] w fun e w' => e = .returned (.int .i64 (j : Int)) ∧ w = w') := by
    have := cellAt_any g f cs (x :: r) 1 w h (by omega)
    rw [← hjj] at this
    exact this
  have HJ := Lib.hid hjj
  clear hjj
  obtain ⟨V, hV⟩ : ∃ V, V = (w.setCell ⟨g, 240, none⟩ (.int .i64 j)) := ⟨_, rfl⟩
  have BV : Hid (Blk V g 92 (ringCells cs j (x :: r).length).toArray) := by
    have b := h.blk.set_ 240 (.int .i64 j)
    simp only [List.setIfInBounds_toArray] at b
    rw [ring_set1 _ _ _ _ h.len] at b
    show Blk _ _ _ _
    rw [hV]
    exact b
  have c2' : V.cell? ⟨g, 241, none⟩ = some (.int .i64 ((r.length : Int) + 1)) := by
    rw [BV.out.cell 241]
    simp [ringCells, h.len]
  have RF : Hid (RingQ (V.setCell ⟨g, 241, none⟩ (.int .i64 r.length)) g r) := by
    have h' := h.dropped
    rw [← HJ.out] at h'
    rw [hV]
    exact ⟨_, _, h'⟩
  have KF : Hid (Kept g (g + 1) w (V.setCell ⟨g, 241, none⟩ (.int .i64 r.length))) := by
    show Kept _ _ _ _
    rw [hV]
    exact (kept_set1 w g 240 _).trans (kept_set1 _ g 241 _)
  clear h
  go_enter Try.func67, Try.ntmps67
  go_upto_region 0 with fail
  go_wp2_with fail
  with_reducible refine CA.out.mono ?_
  rintro e w1 ⟨rfl, hw1⟩
  subst hw1
  have HV := Lib.hid hV
  have c2 : w.cell? ⟨g, 241, none⟩ = some (.int .i64 ((r.length : Int) + 1)) := HR.out.c2
  have f2 : w.frozen? ⟨g, 241, none⟩ = false := HR.out.blk.frozen 241
  clear CA c2' hV BV
  go_wp2_with fail
  go_end0
  rw [← HV.out]
  exact ⟨rfl, by simpa using RF.out, by simpa using KF.out⟩
end Go.Proofs.Ytlfbmjfbebbdlaa
