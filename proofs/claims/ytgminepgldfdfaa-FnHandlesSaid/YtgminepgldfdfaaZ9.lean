/- The state of the law of handles in memory, and its steps; no condition. -/
import Derived.Test.YtgminepgldfdfaaZ7
import Derived.Test.YtgminepgldfdfaaZ8
import Derived.Test.YtgminepgldfdfaaJ
import Derived.Deep.DeepCutAuto
namespace Go.Proofs.Ytgminepgldfdfaa
open Go.RowKit

theorem row_other {w w' : World} {lo e size n g : Nat} {v : Value} {xs : List Value} (h : w.ownsRow lo e size v n xs) (hg : v.ownBlock ≠ some g) (hk : Kept g (g + 1) w w') : w'.ownsRow lo e size v n xs := by
  refine ⟨h.1, ?_⟩
  rcases h.2 with hn | ⟨g1, cap, cur, rfl, hl, hh, rest⟩
  · exact .inl hn
  · have : g1 ≠ g := fun e => hg (by rw [e]; rfl)
    exact .inr ⟨g1, cap, cur, rfl, hl, (hk.block g1 (Array.getElem?_eq_some_iff.1 hh).1 (by omega)).trans hh, rest⟩
theorem OwnS.beside {w w' : World} {lo hi d d' : Nat} {D D' : Option Addr} {ages : List Int} {used : List Bool} (h : OwnS w lo hi D d D' d' ages used) {g t : Nat} {cs : Array Value} (hb : Blk w g t cs) (h1 : 2 ≠ t) (h2 : 4 ≠ t) (hk : Kept g (g + 1) w w') : OwnS w' lo hi D d D' d' ages used :=
  ⟨h.i.beside hb h1 hk, h.b.beside hb h2 hk⟩
theorem blk_ne {w : World} {g t g' t' : Nat} {cs cs' : Array Value} (h : Blk w g t cs) (h' : Blk w g' t' cs') (hne : t ≠ t') : g ≠ g' := by
  rintro rfl
  unfold Blk at h h'
  rw [h] at h'
  injection h' with h'
  injection h' with _ ht
  exact hne ht
theorem blk_beside {w w' : World} {g t g' : Nat} {cs : Array Value} (h : Blk w g t cs) (hne : g ≠ g') (hk : Kept g' (g' + 1) w w') : Blk w' g t cs := h.kept hk (by omega)

/-- The law's own state: the dice in block g, the slots in the box gs, the held and the dropped handles. -/
structure HM (w wr : World) (A : Option Addr) (c : Nat) (xs : List Int) (g gs : Nat) (ages : List Int) (used : List Bool) (held gone : List (Int × Int)) (v vg : Value) : Prop where
  k : Kept 0 0 w wr
  dice : ∃ (i : Nat) (q : Int), i ≤ xs.length ∧ Blk wr g 55 #[.slice A xs.length c, .int .i64 i, .int .u64 q]
  box : ∃ (D D' : Option Addr) (d d' : Nat), Blk wr gs 31 #[.slice D ages.length d, .slice D' used.length d'] ∧ OwnS wr w.heap.size wr.heap.size D d D' d' ages used
  held : wr.ownsRow w.heap.size 36 2 v held.length (hcells held)
  gone : wr.ownsRow w.heap.size 36 2 vg gone.length (hcells gone)
  ne : v.ownBlock = none ∨ vg.ownBlock = none ∨ v.ownBlock ≠ vg.ownBlock
  g1 : w.heap.size ≤ g
  g2 : w.heap.size ≤ gs

theorem row_blk {w : World} {lo e size n b : Nat} {v : Value} {xs : List Value} (h : w.ownsRow lo e size v n xs) (hb : v.ownBlock = some b) : ∃ cs, Blk w b e cs := by
  rcases h.2 with ⟨rfl, _⟩ | ⟨g, cap, cur, rfl, _, hh, _⟩
  · cases hb
  · injection hb with hb
    subst hb
    exact ⟨cur, hh⟩

section
variable {w wr wr' : World} {A : Option Addr} {c : Nat} {xs : List Int} {g gs : Nat} {ages ages' : List Int} {used used' : List Bool} {held gone held' gone' : List (Int × Int)} {v vg v' : Value}
/-- New memory alone. -/
theorem HM.step (h : HM w wr A c xs g gs ages used held gone v vg) (hk : Kept 0 0 wr wr') : HM w wr' A c xs g gs ages used held gone v vg := by
  obtain ⟨i, q, hi, hb⟩ := h.dice
  obtain ⟨D, D', d, d', hx, ho⟩ := h.box
  exact ⟨h.k.trans hk, ⟨i, q, hi, hb.kept hk (by omega)⟩, ⟨D, D', d, d', hx.kept hk (by omega), ⟨(ho.i.kept hk (by omega)).wide (Nat.le_refl _) hk.size, (ho.b.kept hk (by omega)).wide (Nat.le_refl _) hk.size⟩⟩, row_kept h.held hk, row_kept h.gone hk, h.ne, h.g1, h.g2⟩
/-- A draw. -/
theorem HM.draw (h : HM w wr A c xs g gs ages used held gone v vg) (hk : Kept g (g + 1) wr wr') {i : Nat} {q : Int} (hi : i ≤ xs.length) (hb' : Blk wr' g 55 #[.slice A xs.length c, .int .i64 i, .int .u64 q]) : HM w wr' A c xs g gs ages used held gone v vg := by
  obtain ⟨i0, q0, hi0, hb⟩ := h.dice
  obtain ⟨D, D', d, d', hx, ho⟩ := h.box
  have hne := blk_ne hx hb (by decide)
  have o := ho.beside hb (by decide) (by decide) hk
  have z := hk.size
  exact ⟨h.k.trans2 hk (.inr h.g1), ⟨i, q, hi, hb'⟩, ⟨D, D', d, d', blk_beside hx hne hk, ⟨o.i.wide (Nat.le_refl _) z, o.b.wide (Nat.le_refl _) z⟩⟩, row_other h.held (row_ne h.held hb (by decide)) hk, row_other h.gone (row_ne h.gone hb (by decide)) hk, h.ne, h.g1, h.g2⟩
/-- A row of handles is written, b its block: all but that row is as it was. -/
theorem HM.rows (h : HM w wr A c xs g gs ages used held gone v vg) {b : Nat} {cs : Array Value} (hb : Blk wr b 36 cs) (hw : w.heap.size ≤ b) (hk : Kept b (b + 1) wr wr') :
    Kept 0 0 w wr' ∧ (∃ (i : Nat) (q : Int), i ≤ xs.length ∧ Blk wr' g 55 #[.slice A xs.length c, .int .i64 i, .int .u64 q]) ∧ ∃ (D D' : Option Addr) (d d' : Nat), Blk wr' gs 31 #[.slice D ages.length d, .slice D' used.length d'] ∧ OwnS wr' w.heap.size wr'.heap.size D d D' d' ages used := by
  obtain ⟨i, q, hi, hd⟩ := h.dice
  obtain ⟨D, D', d, d', hx, ho⟩ := h.box
  have o := ho.beside hb (by decide) (by decide) hk
  have z := hk.size
  exact ⟨h.k.trans2 hk (.inr hw), ⟨i, q, hi, blk_beside hd (blk_ne hd hb (by decide)) hk⟩, ⟨D, D', d, d', blk_beside hx (blk_ne hx hb (by decide)) hk, ⟨o.i.wide (Nat.le_refl _) z, o.b.wide (Nat.le_refl _) z⟩⟩⟩
/-- append to the held handles. -/
theorem HM.app_held (h : HM w wr A c xs g gs ages used held gone v vg) (hg : wr.grownBy wr' v.ownBlock) (ho : wr'.ownsRow w.heap.size 36 2 v' held'.length (hcells held')) (hl : v'.ownBlock = v.ownBlock ∨ v'.ownBlock = none ∨ ∃ b, v'.ownBlock = some b ∧ wr.heap.size ≤ b) : HM w wr' A c xs g gs ages used held' gone v' vg := by
  have hne : v'.ownBlock = none ∨ vg.ownBlock = none ∨ v'.ownBlock ≠ vg.ownBlock := by
    rcases hl with e | e | ⟨b, e, hb⟩
    · rw [e]; exact h.ne
    · exact .inl e
    · cases hv : vg.ownBlock with
      | none => exact .inr (.inl rfl)
      | some b' =>
        have := (h.gone.lt b' hv).2
        exact .inr (.inr (by rw [e]; intro e'; injection e' with e'; omega))
  cases hb : v.ownBlock with
  | none =>
    rw [hb] at hg
    have hk : Kept 0 0 wr wr' := Kept.of_grown hg (by intro k hk; cases hk)
    have h' := h.step hk
    exact ⟨h'.k, h'.dice, h'.box, ho, h'.gone, hne, h.g1, h.g2⟩
  | some b =>
    rw [hb] at hg
    obtain ⟨cs, hbl⟩ := row_blk h.held hb
    have hk : Kept b (b + 1) wr wr' := kept_of_row hg
    obtain ⟨r1, r2, r3⟩ := h.rows hbl (h.held.lt b hb).1 hk
    refine ⟨r1, r2, r3, ho, row_other h.gone (fun e => ?_) hk, hne, h.g1, h.g2⟩
    rcases h.ne with e1 | e1 | e1
    · rw [hb] at e1; cases e1
    · rw [e] at e1; cases e1
    · exact e1 (hb.trans e.symm)
/-- append to the dropped handles. -/
theorem HM.app_gone (h : HM w wr A c xs g gs ages used held gone v vg) (hg : wr.grownBy wr' vg.ownBlock) (ho : wr'.ownsRow w.heap.size 36 2 v' gone'.length (hcells gone')) (hl : v'.ownBlock = vg.ownBlock ∨ v'.ownBlock = none ∨ ∃ b, v'.ownBlock = some b ∧ wr.heap.size ≤ b) : HM w wr' A c xs g gs ages used held gone' v v' := by
  have hne : v.ownBlock = none ∨ v'.ownBlock = none ∨ v.ownBlock ≠ v'.ownBlock := by
    rcases hl with e | e | ⟨b, e, hb⟩
    · rw [e]; exact h.ne
    · exact .inr (.inl e)
    · cases hv : v.ownBlock with
      | none => exact .inl rfl
      | some b' =>
        have := (h.held.lt b' hv).2
        exact .inr (.inr (by rw [e]; intro e'; injection e' with e'; omega))
  cases hb : vg.ownBlock with
  | none =>
    rw [hb] at hg
    have hk : Kept 0 0 wr wr' := Kept.of_grown hg (by intro k hk; cases hk)
    have h' := h.step hk
    exact ⟨h'.k, h'.dice, h'.box, h'.held, ho, hne, h.g1, h.g2⟩
  | some b =>
    rw [hb] at hg
    obtain ⟨cs, hbl⟩ := row_blk h.gone hb
    have hk : Kept b (b + 1) wr wr' := kept_of_row hg
    obtain ⟨r1, r2, r3⟩ := h.rows hbl (h.gone.lt b hb).1 hk
    refine ⟨r1, r2, r3, row_other h.held (fun e => ?_) hk, ho, hne, h.g1, h.g2⟩
    rcases h.ne with e1 | e1 | e1
    · rw [e] at e1; cases e1
    · rw [hb] at e1; cases e1
    · exact e1 (e.trans hb.symm)
/-- The slots are replaced. -/
theorem HM.put (h : HM w wr A c xs g gs ages used held gone v vg) {D D' : Option Addr} {d d' : Nat} (ho : OwnS wr w.heap.size wr.heap.size D d D' d' ages' used') :
    HM w ((wr.setCell ⟨gs, 0, none⟩ (.slice D ages'.length d)).setCell ⟨gs, 1, none⟩ (.slice D' used'.length d')) A c xs g gs ages' used' held gone v vg := by
  obtain ⟨i, q, hi, hb⟩ := h.dice
  obtain ⟨E, E', e, e', hx, _⟩ := h.box
  have hk : Kept gs (gs + 1) wr ((wr.setCell ⟨gs, 0, none⟩ (.slice D ages'.length d)).setCell ⟨gs, 1, none⟩ (.slice D' used'.length d')) :=
    ((Kept.refl gs (gs + 1) wr).setCell (p := ⟨gs, 0, none⟩) (.inr ⟨Nat.le_refl _, Nat.lt_succ_self _⟩) _).setCell (p := ⟨gs, 1, none⟩) (.inr ⟨Nat.le_refl _, Nat.lt_succ_self _⟩) _
  have o := ho.beside hx (by decide) (by decide) hk
  have z := hk.size
  refine ⟨h.k.trans2 hk (.inr h.g2), ⟨i, q, hi, blk_beside hb (blk_ne hb hx (by decide)) hk⟩, ⟨D, D', d, d', ?_, ⟨o.i.wide (Nat.le_refl _) z, o.b.wide (Nat.le_refl _) z⟩⟩, row_other h.held (row_ne h.held hx (by decide)) hk, row_other h.gone (row_ne h.gone hx (by decide)) hk, h.ne, h.g1, h.g2⟩
  simpa using (hx.set_ 0 (.slice D ages'.length d)).set_ 1 (.slice D' used'.length d')
/-- The held handles are another row. -/
theorem HM.set_held (h : HM w wr A c xs g gs ages used held gone v vg) (ho : wr.ownsRow w.heap.size 36 2 v' held'.length (hcells held')) (hne : v'.ownBlock = none ∨ vg.ownBlock = none ∨ v'.ownBlock ≠ vg.ownBlock) : HM w wr A c xs g gs ages used held' gone v' vg :=
  ⟨h.k, h.dice, h.box, ho, h.gone, hne, h.g1, h.g2⟩
/-- The handle at place i of a row. -/
theorem hcells_at (l : List (Int × Int)) (i : Nat) (hi : i < l.length) : (hcells l)[i * 2]? = some (.int .i64 l[i].1) ∧ (hcells l)[i * 2 + 1]? = some (.int .i64 l[i].2) := by
  induction l generalizing i with
  | nil => simp at hi
  | cons h r ih =>
    cases i with
    | zero => simp [hcells]
    | succ i =>
      have := ih i (by simpa using hi)
      rw [show (i + 1) * 2 = i * 2 + 1 + 1 from by omega]
      simpa [hcells] using this
/-- A row of handles: where it lies, and what its cells hold. -/
theorem row_at {l : List (Int × Int)} {lo : Nat} (h : wr.ownsRow lo 36 2 v l.length (hcells l)) (hl : 0 < l.length) : ∃ b cap, v = .slice (some ⟨b, 0, none⟩) l.length cap ∧ lo ≤ b ∧ l.length ≤ cap ∧ ∀ i (hi : i < l.length), wr.cell? ⟨b, i * 2, none⟩ = some (.int .i64 l[i].1) ∧ wr.cell? ⟨b, i * 2 + 1, none⟩ = some (.int .i64 l[i].2) := by
  rcases h.2 with ⟨_, hn⟩ | ⟨b, cap, cur, rfl, hb, hh, hc, _⟩
  · omega
  · refine ⟨b, cap, rfl, hb, hc, fun i hi => ?_⟩
    have e := hcells_at l i hi
    exact ⟨by rw [h.cellAt _ (by omega)]; exact e.1, by rw [h.cellAt _ (by omega)]; exact e.2⟩
end
end Go.Proofs.Ytgminepgldfdfaa
