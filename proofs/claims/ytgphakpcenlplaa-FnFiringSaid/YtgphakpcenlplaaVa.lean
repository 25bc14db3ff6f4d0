/- The memory of the law of firing: one block of one type is turned, all of another type stays; no function is named here. -/
import Derived.Test.YtgphakpcenlplaaTn
import Derived.Test.YtgphakpcenlplaaDd
import Derived.Test.YtgphakpcenlplaaNi
namespace Go.Proofs.Ytgphakpcenlplaa
open Go.RowKit Go.Sort

/-- Nothing old is turned, or one block of the type e, from base on. -/
def Only (e : TypeId) (base : Nat) (w w' : World) : Prop := Kept 0 0 w w' ∨ ∃ g cs, base ≤ g ∧ Blk w g e cs ∧ Kept g (g + 1) w w'
section
variable {w w' w0 : World} {base : Nat} {e t : TypeId}
theorem Only.size (h : Only e base w w') : w.heap.size ≤ w'.heap.size := by
  rcases h with h | ⟨g, cs, _, _, h⟩ <;> exact h.size
theorem Only.blk (h : Only e base w w') {b : Nat} {cs : Array Value} (hb : Blk w b t cs) (hne : t ≠ e) : Blk w' b t cs := by
  rcases h with h | ⟨g, cs', _, hg, h⟩
  · exact hb.kept h (.inl (Nat.le_refl _))
  · exact hb.kept h (by have := blk_ne hb hg hne; omega)
theorem Only.row (h : Only e base w w') {lo size n : Nat} {v : Value} {xs : List Value} (ho : w.ownsRow lo t size v n xs) (hne : t ≠ e) : w'.ownsRow lo t size v n xs := by
  rcases h with h | ⟨g, cs', _, hg, h⟩
  · exact row_kept ho h
  · exact row_other ho (row_ne ho hg hne) h
theorem Only.ownZ (h : Only e base w w') {lo hi size n c : Nat} {D : Option Addr} {xs : List Value} (ho : OwnZ w lo hi t size D n c xs) (hne : t ≠ e) : OwnZ w' lo hi t size D n c xs := ⟨h.row ho.1 hne, ho.2⟩
theorem Only.ownM (h : Only e base w w') {lo hi : Nat} {v : Value} {T : Tms} (ho : OwnM w lo hi v T) (h1 : 97 ≠ e) (h2 : 39 ≠ e) : OwnM w' lo hi v T := by
  obtain ⟨hv, lv, rfl, ⟨D1, d1, rfl, a⟩, ⟨D2, d2, rfl, b⟩⟩ := ho
  exact ⟨_, _, rfl, ⟨D1, d1, rfl, h.ownZ a h1⟩, ⟨D2, d2, rfl, h.ownZ b h2⟩⟩
theorem Only.dice (h : Only e base w w') {g c : Nat} {A : Option Addr} {xs : List Int} (hd : Dice w g A c xs) (hg : g < base) : Dice w' g A c xs := by
  rcases h with h | ⟨b, cs', hb, _, h⟩
  · exact hd.kept h (.inl (Nat.le_refl _))
  · exact hd.kept h (.inr (by omega))
theorem Only.kept (h : Only e base w w') (k : Kept 0 0 w0 w) (hz : w0.heap.size ≤ base) : Kept 0 0 w0 w' := by
  rcases h with h | ⟨b, cs', hb, _, h⟩
  · exact k.trans h
  · exact k.trans2 h (.inr (by omega))
theorem only_app {D : Option Addr} {k n c : Nat} {xs : List Value} (ho : w.ownsRow base e k (.slice D n c) n xs) (hg : w.grownBy w' (rowAt D)) : Only e base w w' := by
  cases D with
  | none => exact .inl (Kept.of_grown hg (fun k hk => by cases hk))
  | some ad =>
    obtain ⟨cs, hb⟩ := row_blk ho (b := ad.block) rfl
    exact .inr ⟨ad.block, cs, (own_row_lo ho ad.block rfl).1, hb, Kept.of_grown hg (fun k hk => by injection hk with hk; subst hk; exact ⟨Nat.le_refl _, Nat.lt_succ_self _⟩)⟩
theorem only_set {b i : Nat} {cs : Array Value} (hb : Blk w b e cs) (hl : base ≤ b) (v : Value) : Only e base w (w.setCell ⟨b, i, none⟩ v) :=
  .inr ⟨b, cs, hl, hb, Kept.setCell (Kept.refl b (b + 1) w) (p := ⟨b, i, none⟩) (.inr ⟨Nat.le_refl _, Nat.lt_succ_self _⟩) v⟩
theorem only_set3 {b : Nat} {cs : Array Value} (hb : Blk w b e cs) (hl : base ≤ b) (v0 v1 v2 : Value) : Only e base w (((w.setCell ⟨b, 0, none⟩ v0).setCell ⟨b, 1, none⟩ v1).setCell ⟨b, 2, none⟩ v2) := by
  have s : ∀ {V : World} (i : Nat) (v : Value), Kept b (b + 1) w V → Kept b (b + 1) w (V.setCell ⟨b, i, none⟩ v) := fun i v k => Kept.setCell k (p := ⟨b, i, none⟩) (.inr ⟨Nat.le_refl _, Nat.lt_succ_self _⟩) v
  exact .inr ⟨b, cs, hl, hb, s 2 v2 (s 1 v1 (s 0 v0 (Kept.refl _ _ w)))⟩
theorem only_set5 {b : Nat} {cs : Array Value} (hb : Blk w b e cs) (hl : base ≤ b) (v0 v1 v2 v3 v4 : Value) : Only e base w (((((w.setCell ⟨b, 0, none⟩ v0).setCell ⟨b, 1, none⟩ v1).setCell ⟨b, 2, none⟩ v2).setCell ⟨b, 3, none⟩ v3).setCell ⟨b, 4, none⟩ v4) := by
  have s : ∀ {V : World} (i : Nat) (v : Value), Kept b (b + 1) w V → Kept b (b + 1) w (V.setCell ⟨b, i, none⟩ v) := fun i v k => Kept.setCell k (p := ⟨b, i, none⟩) (.inr ⟨Nat.le_refl _, Nat.lt_succ_self _⟩) v
  exact .inr ⟨b, cs, hl, hb, s 4 v4 (s 3 v3 (s 2 v2 (s 1 v1 (s 0 v0 (Kept.refl _ _ w)))))⟩
end

def bR : Rec Bool := ⟨1, fun x => [.bool x], fun _ => rfl, by decide, fun x u hu => by
  simp at hu; subst hu; rfl⟩
theorem bR_k : bR.k = 1 := rfl
theorem Try.infoB : (Try.prog.info? 4).map (fun i => (i.zero, i.size, i.bytes)) = some (some (.bool false), 1, 1) := by kernel_rfl
theorem bSlice : SliceOf Try.prog 32 4 bR.k 1 := SliceOf.of Try.underlying32 Try.infoB rfl
theorem bR_flat (xs : List Bool) : bR.flat xs = xs.map Value.bool := by
  induction xs with
  | nil => rfl
  | cons x r ih => rw [Rec.flat_cons, ih]; rfl
theorem lit_b (w : World) (b : Bool) : RdR bR (w.alloc (.cells #[.bool b] 4)) (w.alloc (.cells #[.bool b] 4)).heap.size (some ⟨w.heap.size, 0, none⟩) [b] :=
  (OwnZ.rd (R := bR) (OwnZ.of_row (World.ownsRow_lit (e := 4) (size := 1) (base := w.heap.size) w #[.bool b] 1 (Nat.le_refl _) (by unfold maxLen; omega) rfl))).2
theorem lit_i (w : World) (r : Int) : RdR iR (w.alloc (.cells #[.int .i64 r] 2)) (w.alloc (.cells #[.int .i64 r] 2)).heap.size (some ⟨w.heap.size, 0, none⟩) [r] :=
  (OwnZ.rd (R := iR) (OwnZ.of_row (World.ownsRow_lit (e := 2) (size := 1) (base := w.heap.size) w #[.int .i64 r] 1 (Nat.le_refl _) (by unfold maxLen; omega) rfl))).2

/-- What the law of firing has in memory: the dice, the timers T in a box, their Dues, and whether they are armed. -/
structure FireM (w wr : World) (base : Nat) (A : Option Addr) (c : Nat) (xs : List Int) (bt : Nat) (D1 : Option Addr) (d1 : Nat) (D2 : Option Addr) (d2 : Nat) (T : Tms) (D : Option Addr) (d : Nat) (dues : List Int) (E : Option Addr) (e : Nat) (lives : List Bool) : Prop where
  dice : Dice wr w.heap.size A c xs
  box : Blk wr bt 30 #[.slice D1 T.heap.length d1, .slice D2 T.list.length d2, .int .i64 T.next]
  own : OwnM wr base wr.heap.size (.agg #[.slice D1 T.heap.length d1, .slice D2 T.list.length d2, .int .i64 T.next]) T
  due : wr.ownsRow base 2 iR.k (.slice D dues.length d) dues.length (iR.flat dues)
  live : wr.ownsRow base 4 bR.k (.slice E lives.length e) lives.length (bR.flat lives)
  kept : Kept 0 0 w wr
  hb : w.heap.size < base
  hbt : base ≤ bt
  hz : base ≤ wr.heap.size
section
variable {w wr wr' wr1 : World} {base c bt d1 d2 d e e2 : Nat} {A D1 D2 D E E2 : Option Addr} {xs : List Int} {T : Tms} {dues : List Int} {lives : List Bool}
theorem FireM.draw (h : FireM w wr base A c xs bt D1 d1 D2 d2 T D d dues E e lives) (hd : Dice wr' w.heap.size A c xs) (hk : Kept w.heap.size (w.heap.size + 1) wr wr') : FireM w wr' base A c xs bt D1 d1 D2 d2 T D d dues E e lives :=
  ⟨hd, h.box.kept hk (by have := h.hb; have := h.hbt; omega), (h.own.kept hk (by have := h.hb; omega)).wide (Nat.le_refl _) hk.size, (OwnZ.kept (OwnZ.of_row h.due) hk (by have := h.hb; omega)).1, (OwnZ.kept (OwnZ.of_row h.live) hk (by have := h.hb; omega)).1,
    h.kept.trans2 hk (.inr (Nat.le_refl _)), h.hb, h.hbt, Nat.le_trans h.hz hk.size⟩
theorem FireM.same (h : FireM w wr base A c xs bt D1 d1 D2 d2 T D d dues E e lives) (hk : Kept 0 0 wr wr') : FireM w wr' base A c xs bt D1 d1 D2 d2 T D d dues E e lives :=
  ⟨h.dice.kept hk (.inl (Nat.le_refl _)), h.box.kept hk (.inl (Nat.le_refl _)), (h.own.kept hk (.inl (Nat.le_refl _))).wide (Nat.le_refl _) hk.size, row_kept h.due hk, row_kept h.live hk, h.kept.trans hk, h.hb, h.hbt, Nat.le_trans h.hz hk.size⟩
theorem FireM.appDue (h : FireM w wr base A c xs bt D1 d1 D2 d2 T D d dues E e lives) {dues' : List Int} (hg : wr.grownBy wr' (rowAt D)) (ho : wr'.ownsRow base 2 iR.k (.slice E2 dues'.length e2) dues'.length (iR.flat dues')) : FireM w wr' base A c xs bt D1 d1 D2 d2 T E2 e2 dues' E e lives := by
  have o : Only 2 base wr wr' := only_app h.due hg
  exact ⟨o.dice h.dice h.hb, o.blk h.box (by decide), (o.ownM h.own (by decide) (by decide)).wide (Nat.le_refl _) o.size, ho, o.row h.live (by decide), o.kept h.kept (Nat.le_of_lt h.hb), h.hb, h.hbt, Nat.le_trans h.hz o.size⟩
theorem FireM.appLive (h : FireM w wr base A c xs bt D1 d1 D2 d2 T D d dues E e lives) {lives' : List Bool} (hg : wr.grownBy wr' (rowAt E)) (ho : wr'.ownsRow base 4 bR.k (.slice E2 lives'.length e2) lives'.length (bR.flat lives')) : FireM w wr' base A c xs bt D1 d1 D2 d2 T D d dues E2 e2 lives' := by
  have o : Only 4 base wr wr' := only_app h.live hg
  exact ⟨o.dice h.dice h.hb, o.blk h.box (by decide), (o.ownM h.own (by decide) (by decide)).wide (Nat.le_refl _) o.size, o.row h.due (by decide), ho, o.kept h.kept (Nat.le_of_lt h.hb), h.hb, h.hbt, Nat.le_trans h.hz o.size⟩
theorem FireM.only (h : FireM w wr base A c xs bt D1 d1 D2 d2 T D d dues E e lives) {t : TypeId} (o : Only t base wr wr') (h1 : 97 ≠ t) (h2 : 39 ≠ t) (h3 : 30 ≠ t) (h4 : 2 ≠ t) (h5 : 4 ≠ t) : FireM w wr' base A c xs bt D1 d1 D2 d2 T D d dues E e lives :=
  ⟨o.dice h.dice h.hb, o.blk h.box h3, (o.ownM h.own h1 h2).wide (Nat.le_refl _) o.size, o.row h.due h4, o.row h.live h5, o.kept h.kept (Nat.le_of_lt h.hb), h.hb, h.hbt, Nat.le_trans h.hz o.size⟩
/-- New timers are stored in the box. -/
theorem FireM.put (h : FireM w wr base A c xs bt D1 d1 D2 d2 T D d dues E e lives) {N : Tms} {D3 D4 : Option Addr} {d3 d4 : Nat} {lo hi : Nat} (hl : base ≤ lo) (hh : hi ≤ wr.heap.size) (ho : OwnM wr lo hi (.agg #[.slice D3 N.heap.length d3, .slice D4 N.list.length d4, .int .i64 N.next]) N) :
    FireM w (((wr.setCell ⟨bt, 0, none⟩ (.slice D3 N.heap.length d3)).setCell ⟨bt, 1, none⟩ (.slice D4 N.list.length d4)).setCell ⟨bt, 2, none⟩ (.int .i64 N.next)) base A c xs bt D3 d3 D4 d4 N D d dues E e lives := by
  have o := only_set3 h.box h.hbt (.slice D3 N.heap.length d3) (.slice D4 N.list.length d4) (.int .i64 N.next)
  exact ⟨o.dice h.dice h.hb, ((h.box.set_ 0 _).set_ 1 _).set_ 2 _, (o.ownM ho (by decide) (by decide)).wide hl (Nat.le_trans hh o.size), o.row h.due (by decide), o.row h.live (by decide), o.kept h.kept (Nat.le_of_lt h.hb), h.hb, h.hbt, Nat.le_trans h.hz o.size⟩
/-- One is no longer armed. -/
theorem FireM.dead (h : FireM w wr base A c xs bt D1 d1 D2 d2 T D d dues E e lives) {b k : Nat} (hE : E = some ⟨b, 0, none⟩) : FireM w (wr.setCell ⟨b, k, none⟩ (.bool false)) base A c xs bt D1 d1 D2 d2 T D d dues E e (lives.set k false) := by
  subst hE
  have hs := h.live.stored k (.bool false)
  obtain ⟨cs, hb⟩ := row_blk h.live (b := b) rfl
  have o : Only 4 base wr (wr.setCell ⟨b, k, none⟩ (.bool false)) := only_set hb (own_row_lo h.live b rfl).1 _
  refine ⟨o.dice h.dice h.hb, o.blk h.box (by decide), (o.ownM h.own (by decide) (by decide)).wide (Nat.le_refl _) o.size, o.row h.due (by decide), ?_, o.kept h.kept (Nat.le_of_lt h.hb), h.hb, h.hbt, Nat.le_trans h.hz o.size⟩
  rw [bR_flat, List.map_set, ← bR_flat, List.length_set]
  exact hs.1
theorem FireM.cellLive (h : FireM w wr base A c xs bt D1 d1 D2 d2 T D d dues E e lives) {k : Nat} (hk : k < lives.length) : ∃ b, E = some ⟨b, 0, none⟩ ∧ wr.cell? ⟨b, k, none⟩ = some (.bool lives[k]) ∧ wr.frozen? ⟨b, k, none⟩ = false := by
  rcases (OwnZ.of_row h.live).form with ⟨_, h0, _⟩ | ⟨b, h1, _⟩
  · exfalso; omega
  · subst h1
    refine ⟨b, rfl, ?_, h.live.frozenAt _⟩
    have := own_at (R := bR) h.live hk 0 (u := .bool lives[k]) rfl
    simpa [bR_k] using this
theorem FireM.cellDue (h : FireM w wr base A c xs bt D1 d1 D2 d2 T D d dues E e lives) {k : Nat} (hk : k < dues.length) : ∃ b, D = some ⟨b, 0, none⟩ ∧ wr.cell? ⟨b, k, none⟩ = some (.int .i64 dues[k]) := by
  rcases (OwnZ.of_row h.due).form with ⟨_, h0, _⟩ | ⟨b, h1, _⟩
  · exfalso; omega
  · subst h1
    refine ⟨b, rfl, ?_⟩
    have := own_at (R := iR) h.due hk 0 (u := .int .i64 dues[k]) rfl
    simpa [iR_k] using this
end

/-- Other timers of the call's own, in a box. -/
structure Side (wr : World) (bx lo hi : Nat) (D1 : Option Addr) (d1 : Nat) (D2 : Option Addr) (d2 : Nat) (N : Tms) : Prop where
  box : Blk wr bx 30 #[.slice D1 N.heap.length d1, .slice D2 N.list.length d2, .int .i64 N.next]
  own : OwnM wr lo hi (.agg #[.slice D1 N.heap.length d1, .slice D2 N.list.length d2, .int .i64 N.next]) N
section
variable {wr wr' : World} {bx lo hi d1 d2 : Nat} {D1 D2 : Option Addr} {N : Tms}
theorem Side.same (h : Side wr bx lo hi D1 d1 D2 d2 N) (hk : Kept 0 0 wr wr') : Side wr' bx lo hi D1 d1 D2 d2 N := ⟨h.box.kept hk (.inl (Nat.le_refl _)), h.own.kept hk (.inl (Nat.le_refl _))⟩
theorem Side.only (h : Side wr bx lo hi D1 d1 D2 d2 N) {t : TypeId} {base : Nat} (o : Only t base wr wr') (h1 : 97 ≠ t) (h2 : 39 ≠ t) (h3 : 30 ≠ t) : Side wr' bx lo hi D1 d1 D2 d2 N := ⟨o.blk h.box h3, o.ownM h.own h1 h2⟩
theorem Side.new {w4 : World} (ho : OwnM w4 lo hi (.agg #[.slice D1 N.heap.length d1, .slice D2 N.list.length d2, .int .i64 N.next]) N) : Side (w4.alloc (.cells #[.slice D1 N.heap.length d1, .slice D2 N.list.length d2, .int .i64 N.next] 30)) w4.heap.size lo hi D1 d1 D2 d2 N :=
  ⟨Blk.new _ _ _, ho.kept (Kept.alloc0 _ _) (.inl (Nat.le_refl _))⟩
end

/-- The same without the timers' own rows. -/
structure FireW (w wr : World) (base : Nat) (A : Option Addr) (c : Nat) (xs : List Int) (bt : Nat) (ts : Array Value) (D : Option Addr) (d : Nat) (dues : List Int) (E : Option Addr) (e : Nat) (lives : List Bool) : Prop where
  dice : Dice wr w.heap.size A c xs
  box : Blk wr bt 30 ts
  due : wr.ownsRow base 2 iR.k (.slice D dues.length d) dues.length (iR.flat dues)
  live : wr.ownsRow base 4 bR.k (.slice E lives.length e) lives.length (bR.flat lives)
  kept : Kept 0 0 w wr
  hb : w.heap.size < base
  hbt : base ≤ bt
  hz : base ≤ wr.heap.size
section
variable {w wr wr' : World} {base c bt d1 d2 d e : Nat} {A D1 D2 D E : Option Addr} {xs : List Int} {T : Tms} {dues : List Int} {lives : List Bool}
/-- A block of the type Timer is turned. -/
theorem FireM.lastly (h : FireM w wr base A c xs bt D1 d1 D2 d2 T D d dues E e lives) {bl : Nat} {cs : Array Value} (hk : Kept bl (bl + 1) wr wr') (hb : Blk wr bl 39 cs) (hl : base ≤ bl) : FireW w wr' base A c xs bt #[.slice D1 T.heap.length d1, .slice D2 T.list.length d2, .int .i64 T.next] D d dues E e lives := by
  have o : Only 39 base wr wr' := .inr ⟨bl, cs, hl, hb, hk⟩
  exact ⟨o.dice h.dice h.hb, o.blk h.box (by decide), o.row h.due (by decide), o.row h.live (by decide), o.kept h.kept (Nat.le_of_lt h.hb), h.hb, h.hbt, Nat.le_trans h.hz o.size⟩
theorem FireW.put {t0 t1 t2 : Value} (h : FireW w wr base A c xs bt #[t0, t1, t2] D d dues E e lives) {N : Tms} {D3 D4 : Option Addr} {d3 d4 : Nat} {lo hi : Nat} (hl : base ≤ lo) (hh : hi ≤ wr.heap.size) (ho : OwnM wr lo hi (.agg #[.slice D3 N.heap.length d3, .slice D4 N.list.length d4, .int .i64 N.next]) N) :
    FireM w (((wr.setCell ⟨bt, 0, none⟩ (.slice D3 N.heap.length d3)).setCell ⟨bt, 1, none⟩ (.slice D4 N.list.length d4)).setCell ⟨bt, 2, none⟩ (.int .i64 N.next)) base A c xs bt D3 d3 D4 d4 N D d dues E e lives := by
  have o := only_set3 h.box h.hbt (.slice D3 N.heap.length d3) (.slice D4 N.list.length d4) (.int .i64 N.next)
  exact ⟨o.dice h.dice h.hb, ((h.box.set_ 0 _).set_ 1 _).set_ 2 _, (o.ownM ho (by decide) (by decide)).wide hl (Nat.le_trans hh o.size), o.row h.due (by decide), o.row h.live (by decide), o.kept h.kept (Nat.le_of_lt h.hb), h.hb, h.hbt, Nat.le_trans h.hz o.size⟩
end
theorem Side.lastly {wr wr' : World} {bx lo hi d1 d2 : Nat} {D1 D2 : Option Addr} {N : Tms} (h : Side wr bx lo hi D1 d1 D2 d2 N) {bl : Nat} {cs : Array Value} (hk : Kept bl (bl + 1) wr wr') (hb : Blk wr bl 39 cs) (hl : bl + 1 ≤ lo) : Side wr' bx lo hi D1 d1 D2 d2 N :=
  ⟨h.box.kept hk (by have := blk_ne h.box hb (by decide); omega), h.own.kept hk (.inr (.inr hl))⟩
end Go.Proofs.Ytgphakpcenlplaa
