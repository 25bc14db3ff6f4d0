/- The state of the law FnAfters in memory, and its steps; no condition. -/
import Derived.Test.YtnnbfcmbcjkpoaaEi
import Derived.Test.YtnnbfcmbcjkpoaaEb
import Derived.Test.YtnnbfcmbcjkpoaaDd
namespace Go.Proofs.Ytnnbfcmbcjkpoaa
open Go.RowKit Go.Sort

theorem OwnAs.offT {p : Obj → Bool} {w w' : World} {lo hi : Nat} {v : Value} {t : Afs} (h : OwnAs w lo hi v t) (ho : Off p w w') (h1 : ∀ cs, p (.cells cs 2 (0, 0)) = false) (h2 : ∀ cs, p (.cells cs 4 (0, 0)) = false) (h3 : ∀ cs, p (.cells cs 42 (0, 0)) = false) : OwnAs w' lo hi v t := by
  obtain ⟨a, b, c, e, ⟨D1, d1, e1, o1⟩, ⟨D2, d2, e2, o2⟩, ⟨D3, d3, e3, o3⟩⟩ := h
  exact ⟨a, b, c, e, ⟨D1, d1, e1, o1.off ho h1⟩, ⟨D2, d2, e2, o2.off ho h2⟩, ⟨D3, d3, e3, o3.off ho h3⟩⟩
/-- The law's own state: the dice in block gd, the afters in the box ba, and three rows. -/
structure LM (w wr : World) (A : Option Addr) (c : Nat) (xs : List Int) (gd ba : Nat) (a : Afs) (N S : List Int) (H : List (Int × Int)) (b1 d1 b2 d2 b3 d3 : Nat) : Prop where
  k : Kept 0 0 w wr
  dice : Dice wr gd A c xs
  box : ∃ lo hi F1 f1 F2 f2 F3 f3, Blk wr ba 34 #[.slice F1 a.slots.ages.length f1, .slice F2 a.slots.used.length f2, .slice F3 a.list.length f3] ∧ OwnAs wr lo hi (.agg #[.slice F1 a.slots.ages.length f1, .slice F2 a.slots.used.length f2, .slice F3 a.list.length f3]) a ∧ gd + 1 ≤ lo ∧ hi ≤ wr.heap.size ∧ (b1 < lo ∨ hi ≤ b1) ∧ (b2 < lo ∨ hi ≤ b2)
  r1 : wr.ownsRow (gd + 1) 2 1 (.slice (some ⟨b1, 0, none⟩) N.length d1) N.length (iR.flat N)
  r2 : wr.ownsRow (gd + 1) 2 1 (.slice (some ⟨b2, 0, none⟩) S.length d2) S.length (iR.flat S)
  r3 : wr.ownsRow (gd + 1) 40 2 (.slice (some ⟨b3, 0, none⟩) H.length d3) H.length (hdR.flat H)
  ne : b1 ≠ b2
  g1 : w.heap.size ≤ gd
  g2 : gd + 1 ≤ ba
section
variable {w wr wr' : World} {A : Option Addr} {c : Nat} {xs : List Int} {gd ba : Nat} {a : Afs} {N S : List Int} {H : List (Int × Int)} {b1 d1 b2 d2 b3 d3 : Nat}
theorem LM.lt1 (h : LM w wr A c xs gd ba a N S H b1 d1 b2 d2 b3 d3) : b1 < wr.heap.size ∧ b2 < wr.heap.size ∧ b3 < wr.heap.size ∧ ba < wr.heap.size ∧ gd < wr.heap.size := by
  obtain ⟨lo, hi, F1, f1, F2, f2, F3, f3, hb, _⟩ := h.box
  exact ⟨(h.r1.lt b1 rfl).2, (h.r2.lt b2 rfl).2, (h.r3.lt b3 rfl).2, hb.lt, h.dice.lt⟩
/-- New memory alone. -/
theorem LM.step (h : LM w wr A c xs gd ba a N S H b1 d1 b2 d2 b3 d3) (hk : Kept 0 0 wr wr') : LM w wr' A c xs gd ba a N S H b1 d1 b2 d2 b3 d3 := by
  obtain ⟨lo, hi, F1, f1, F2, f2, F3, f3, hb, ho, h1, h2, h3, h4⟩ := h.box
  exact ⟨h.k.trans hk, h.dice.kept hk (.inl (Nat.le_refl _)), ⟨lo, hi, F1, f1, F2, f2, F3, f3, hb.kept hk (.inl (Nat.le_refl _)), ho.kept hk (.inl (Nat.le_refl _)), h1, Nat.le_trans h2 hk.size, h3, h4⟩, row_kept h.r1 hk, row_kept h.r2 hk, row_kept h.r3 hk, h.ne, h.g1, h.g2⟩
theorem LM.rdA (h : LM w wr A c xs gd ba a N S H b1 d1 b2 d2 b3 d3) : ∃ F1 f1 F2 f2 F3 f3, Blk wr ba 34 #[.slice F1 a.slots.ages.length f1, .slice F2 a.slots.used.length f2, .slice F3 a.list.length f3] ∧ RdAs wr wr.heap.size (.agg #[.slice F1 a.slots.ages.length f1, .slice F2 a.slots.used.length f2, .slice F3 a.list.length f3]) a := by
  obtain ⟨lo, hi, F1, f1, F2, f2, F3, f3, hb, ho, h1, h2, h3, h4⟩ := h.box
  exact ⟨F1, f1, F2, f2, F3, f3, hb, ho.rdW h2⟩
/-- A draw. -/
theorem LM.draw (h : LM w wr A c xs gd ba a N S H b1 d1 b2 d2 b3 d3) (hk : Kept gd (gd + 1) wr wr') (hd : Dice wr' gd A c xs) : LM w wr' A c xs gd ba a N S H b1 d1 b2 d2 b3 d3 := by
  obtain ⟨lo, hi, F1, f1, F2, f2, F3, f3, hb, ho, h1, h2, h3, h4⟩ := h.box
  obtain ⟨_, _, _, hbl⟩ := h.dice.blk
  have off : Off (isTy 68) wr wr' := Off.range hbl hk
  exact ⟨h.k.trans2 hk (.inr h.g1), hd, ⟨lo, hi, F1, f1, F2, f2, F3, f3, hb.off off (by rfl), ho.offT off (fun _ => rfl) (fun _ => rfl) (fun _ => rfl), h1, Nat.le_trans h2 hk.size, h3, h4⟩, row_off h.r1 off (fun _ => rfl), row_off h.r2 off (fun _ => rfl), row_off h.r3 off (fun _ => rfl), h.ne, h.g1, h.g2⟩
/-- Other afters are stored into the box. -/
theorem LM.put (h : LM w wr A c xs gd ba a N S H b1 d1 b2 d2 b3 d3) {a' : Afs} {lo : Nat} {E1 E2 E3 : Option Addr} {k1 k2 k3 hi : Nat} (ho : OwnAs wr lo hi (.agg #[.slice E1 a'.slots.ages.length k1, .slice E2 a'.slots.used.length k2, .slice E3 a'.list.length k3]) a') (hh : hi ≤ wr.heap.size) (h1 : gd + 1 ≤ lo) (h3 : b1 < lo ∨ hi ≤ b1) (h4 : b2 < lo ∨ hi ≤ b2) :
    LM w (((wr.setCell ⟨ba, 0, none⟩ (.slice E1 a'.slots.ages.length k1)).setCell ⟨ba, 1, none⟩ (.slice E2 a'.slots.used.length k2)).setCell ⟨ba, 2, none⟩ (.slice E3 a'.list.length k3)) A c xs gd ba a' N S H b1 d1 b2 d2 b3 d3 := by
  obtain ⟨_, _, F1, f1, F2, f2, F3, f3, hb, _, _⟩ := h.box
  have hk := keptA wr ba (.slice E1 a'.slots.ages.length k1) (.slice E2 a'.slots.used.length k2) (.slice E3 a'.list.length k3)
  have hB := blkA hb (.slice E1 a'.slots.ages.length k1) (.slice E2 a'.slots.used.length k2) (.slice E3 a'.list.length k3)
  have off := Off.range hb hk
  have g1 := h.g1
  have g2 := h.g2
  exact ⟨h.k.trans2 hk (.inr (by omega)), h.dice.kept hk (.inr g2), ⟨lo, hi, E1, k1, E2, k2, E3, k3, hB, ho.offT off (fun _ => rfl) (fun _ => rfl) (fun _ => rfl), h1, Nat.le_trans hh hk.size, h3, h4⟩, row_off h.r1 off (fun _ => rfl), row_off h.r2 off (fun _ => rfl), row_off h.r3 off (fun _ => rfl), h.ne, h.g1, h.g2⟩
theorem row_two {w w' : World} {lo e size n g b : Nat} {xs : List Value} {d : Nat} (h : w.ownsRow lo e size (.slice (some ⟨b, 0, none⟩) n d) n xs) (hk : Kept g (g + 1) w w') (hne : b ≠ g) : w'.ownsRow lo e size (.slice (some ⟨b, 0, none⟩) n d) n xs :=
  row_other h (by intro e; injection e with e; exact hne e) hk
/-- One state is stored. -/
theorem LM.state (h : LM w wr A c xs gd ba a N S H b1 d1 b2 d2 b3 d3) (k : Nat) (x : Int) : LM w (wr.setCell ⟨b2, k, none⟩ (.int .i64 x)) A c xs gd ba a N (S.set k x) H b1 d1 b2 d2 b3 d3 := by
  obtain ⟨lo, hi, F1, f1, F2, f2, F3, f3, hb, ho, h1, h2, h3, h4⟩ := h.box
  have hk : Kept b2 (b2 + 1) wr (wr.setCell ⟨b2, k, none⟩ (.int .i64 x)) := (Kept.refl b2 (b2 + 1) wr).setCell (p := ⟨b2, k, none⟩) (.inr ⟨Nat.le_refl _, Nat.lt_succ_self _⟩) _
  obtain ⟨cs2, hb2⟩ := row_blk h.r2 (b := b2) rfl
  obtain ⟨cs3, hb3⟩ := row_blk h.r3 (b := b3) rfl
  have g2 : gd + 1 ≤ b2 := (h.r2.lt b2 rfl).1
  have g1 := h.g1
  refine ⟨h.k.trans2 hk (.inr (by omega)), h.dice.kept hk (.inr g2), ⟨lo, hi, F1, f1, F2, f2, F3, f3, blk_beside hb (blk_ne hb hb2 (by decide)) hk, ho.kept hk (by omega), h1, Nat.le_trans h2 hk.size, h3, h4⟩, row_two h.r1 hk h.ne, ?_, row_two h.r3 hk (blk_ne hb3 hb2 (by decide)), h.ne, h.g1, h.g2⟩
  have := own_putI h.r2 k x
  rw [List.length_set]
  exact this
/-- What an append leaves of all but its row: block b is written. -/
theorem kept_row {b : Nat} (hg : wr.grownBy wr' (some b)) : Kept b (b + 1) wr wr' := kept_of_row hg
theorem row_addr {w : World} {lo e k n c : Nat} {D : Option Addr} {xs : List Value} (h : w.ownsRow lo e k (.slice D n c) n xs) (hn : 0 < n) : ∃ g, D = some ⟨g, 0, none⟩ ∧ lo ≤ g ∧ g < w.heap.size := by
  rcases h.2 with ⟨hv, h0⟩ | ⟨g, cap, cur, hv, _⟩
  · omega
  · injection hv with h1 h2 h3
    have := h.lt g (by rw [h1]; rfl)
    exact ⟨g, h1, this.1, this.2⟩
/-- A node more. -/
theorem LM.app1 (h : LM w wr A c xs gd ba a N S H b1 d1 b2 d2 b3 d3) {D : Option Addr} {d : Nat} {x : Int} (hg : wr.grownBy wr' (rowAt (some ⟨b1, 0, none⟩))) (ho : wr'.ownsRow (gd + 1) 2 1 (.slice D (N ++ [x]).length d) (N ++ [x]).length (iR.flat (N ++ [x]))) (hat : rowAt D = rowAt (some ⟨b1, 0, none⟩) ∨ rowAt D = some wr.heap.size) :
    ∃ b, D = some ⟨b, 0, none⟩ ∧ LM w wr' A c xs gd ba a (N ++ [x]) S H b d b2 d2 b3 d3 := by
  obtain ⟨g, rfl, hg1, hg2⟩ := row_addr ho (by simp)
  obtain ⟨lo, hi, F1, f1, F2, f2, F3, f3, hb, hoA, h1, h2, h3, h4⟩ := h.box
  have hk : Kept b1 (b1 + 1) wr wr' := kept_row hg
  obtain ⟨cs1, hb1⟩ := row_blk h.r1 (b := b1) rfl
  obtain ⟨cs3, hb3⟩ := row_blk h.r3 (b := b3) rfl
  have q1 : gd + 1 ≤ b1 := (h.r1.lt b1 rfl).1
  have q2 := h.g1
  have hlt := h.lt1
  have hgg : g = b1 ∨ g = wr.heap.size := by
    rcases hat with e | e
    · exact .inl (by simpa [rowAt] using e)
    · exact .inr (by simpa [rowAt] using e)
  have hne := h.ne
  exact ⟨g, rfl, h.k.trans2 hk (.inr (by omega)), h.dice.kept hk (.inr q1), ⟨lo, hi, F1, f1, F2, f2, F3, f3, blk_beside hb (blk_ne hb hb1 (by decide)) hk, hoA.kept hk (by omega), h1, Nat.le_trans h2 hk.size, by omega, h4⟩, ho, row_two h.r2 hk (fun e => hne e.symm), row_two h.r3 hk (blk_ne hb3 hb1 (by decide)), by omega, h.g1, h.g2⟩
/-- A state more. -/
theorem LM.app2 (h : LM w wr A c xs gd ba a N S H b1 d1 b2 d2 b3 d3) {D : Option Addr} {d : Nat} {x : Int} (hg : wr.grownBy wr' (rowAt (some ⟨b2, 0, none⟩))) (ho : wr'.ownsRow (gd + 1) 2 1 (.slice D (S ++ [x]).length d) (S ++ [x]).length (iR.flat (S ++ [x]))) (hat : rowAt D = rowAt (some ⟨b2, 0, none⟩) ∨ rowAt D = some wr.heap.size) :
    ∃ b, D = some ⟨b, 0, none⟩ ∧ LM w wr' A c xs gd ba a N (S ++ [x]) H b1 d1 b d b3 d3 := by
  obtain ⟨g, rfl, hg1, hg2⟩ := row_addr ho (by simp)
  obtain ⟨lo, hi, F1, f1, F2, f2, F3, f3, hb, hoA, h1, h2, h3, h4⟩ := h.box
  have hk : Kept b2 (b2 + 1) wr wr' := kept_row hg
  obtain ⟨cs2, hb2⟩ := row_blk h.r2 (b := b2) rfl
  obtain ⟨cs3, hb3⟩ := row_blk h.r3 (b := b3) rfl
  have q1 : gd + 1 ≤ b2 := (h.r2.lt b2 rfl).1
  have q2 := h.g1
  have hlt := h.lt1
  have hgg : g = b2 ∨ g = wr.heap.size := by
    rcases hat with e | e
    · exact .inl (by simpa [rowAt] using e)
    · exact .inr (by simpa [rowAt] using e)
  have hne := h.ne
  exact ⟨g, rfl, h.k.trans2 hk (.inr (by omega)), h.dice.kept hk (.inr q1), ⟨lo, hi, F1, f1, F2, f2, F3, f3, blk_beside hb (blk_ne hb hb2 (by decide)) hk, hoA.kept hk (by omega), h1, Nat.le_trans h2 hk.size, h3, by omega⟩, row_two h.r1 hk hne, ho, row_two h.r3 hk (blk_ne hb3 hb2 (by decide)), by omega, h.g1, h.g2⟩
/-- A handle more. -/
theorem LM.app3 (h : LM w wr A c xs gd ba a N S H b1 d1 b2 d2 b3 d3) {D : Option Addr} {d : Nat} {x : Int × Int} (hg : wr.grownBy wr' (rowAt (some ⟨b3, 0, none⟩))) (ho : wr'.ownsRow (gd + 1) 40 2 (.slice D (H ++ [x]).length d) (H ++ [x]).length (hdR.flat (H ++ [x]))) :
    ∃ b, D = some ⟨b, 0, none⟩ ∧ LM w wr' A c xs gd ba a N S (H ++ [x]) b1 d1 b2 d2 b d := by
  obtain ⟨g, rfl, hg1, hg2⟩ := row_addr ho (by simp)
  obtain ⟨lo, hi, F1, f1, F2, f2, F3, f3, hb, hoA, h1, h2, h3, h4⟩ := h.box
  have hk : Kept b3 (b3 + 1) wr wr' := kept_row hg
  obtain ⟨cs1, hb1⟩ := row_blk h.r1 (b := b1) rfl
  obtain ⟨cs2, hb2⟩ := row_blk h.r2 (b := b2) rfl
  obtain ⟨cs3, hb3⟩ := row_blk h.r3 (b := b3) rfl
  have q1 : gd + 1 ≤ b3 := (h.r3.lt b3 rfl).1
  have q2 := h.g1
  have off : Off (isTy 40) wr wr' := Off.range hb3 hk
  exact ⟨g, rfl, h.k.trans2 hk (.inr (by omega)), h.dice.kept hk (.inr q1), ⟨lo, hi, F1, f1, F2, f2, F3, f3, blk_beside hb (blk_ne hb hb3 (by decide)) hk, hoA.offT off (fun _ => rfl) (fun _ => rfl) (fun _ => rfl), h1, Nat.le_trans h2 hk.size, h3, h4⟩, row_two h.r1 hk (blk_ne hb1 hb3 (by decide)), row_two h.r2 hk (blk_ne hb2 hb3 (by decide)), ho, h.ne, h.g1, h.g2⟩
theorem LM.node_at (h : LM w wr A c xs gd ba a N S H b1 d1 b2 d2 b3 d3) {k : Nat} (hk : k < N.length) : wr.cell? ⟨b1, k, none⟩ = some (.int .i64 N[k]) := by
  have := own_at (R := iR) h.r1 hk 0 (u := .int .i64 N[k]) rfl
  simpa [iR_k] using this
theorem LM.st_at (h : LM w wr A c xs gd ba a N S H b1 d1 b2 d2 b3 d3) {k : Nat} (hk : k < S.length) : wr.cell? ⟨b2, k, none⟩ = some (.int .i64 S[k]) := by
  have := own_at (R := iR) h.r2 hk 0 (u := .int .i64 S[k]) rfl
  simpa [iR_k] using this
theorem LM.hd_at (h : LM w wr A c xs gd ba a N S H b1 d1 b2 d2 b3 d3) {k : Nat} (hk : k < H.length) : wr.cell? ⟨b3, k * 2, none⟩ = some (.int .i64 H[k].1) ∧ wr.cell? ⟨b3, k * 2 + 1, none⟩ = some (.int .i64 H[k].2) := by
  have h1 := own_at (R := hdR) h.r3 hk 0 (u := .int .i64 H[k].1) rfl
  have h2 := own_at (R := hdR) h.r3 hk 1 (u := .int .i64 H[k].2) rfl
  exact ⟨by simpa [hdR_k] using h1, by simpa [hdR_k] using h2⟩
end
end Go.Proofs.Ytnnbfcmbcjkpoaa
