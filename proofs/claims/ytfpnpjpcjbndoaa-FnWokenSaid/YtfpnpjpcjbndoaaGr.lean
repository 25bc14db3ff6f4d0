/- Ground: what a call keeps of memory, slices that read as lists, blocks known whole, rows of the call's own; no program is named here. -/
import Derived.Test.YtfpnpjpcjbndoaaProg
import Derived.WalkKit
import Derived.WalkSpells
import Derived.WalkLawsBesides
import Derived.Deep.QuietTactic
import Derived.BigQuiet
import Derived.Lib.Hide
import Derived.Maps.AppendAt
import Derived.Handy
import Derived.IntWalk
import Derived.Lib.QuietBelow
namespace Go.Proofs.Ytfpnpjpcjbndoaa
open Go.RowKit Go.Sort

theorem ret_bool {a b : Bool} (h : a = b) : Ending.returned (.bool a) = .returned (.bool b) := by rw [h]
theorem ret_int {k : IntKind} {a b : Int} (h : a = b) : Ending.returned (.int k a) = .returned (.int k b) := by rw [h]

/-- A slice value that reads as the list xs (each element one cell, f), its cells below block B. -/
def Rd {α : Type} (f : α → Value) (w : World) (B : Nat) (A : Option Addr) (xs : List α) : Prop :=
  xs.length ≤ maxLen ∧ (0 < xs.length → ∃ ad, A = some ad ∧ ad.block < B ∧ ∀ j x, xs[j]? = some x → w.cell? (ad.add j) = some (f x))


theorem Rd.at_ {α : Type} {f : α → Value} {w : World} {B : Nat} {A : Option Addr} {xs : List α} {k : Nat} (h : Rd f w B A xs) (hk : k < xs.length) :
    ∃ ad, A = some ad ∧ ad.block < B ∧ w.cell? (ad.add k) = some (f xs[k]) := by
  obtain ⟨ad, e, hb, hc⟩ := h.2 (by omega)
  exact ⟨ad, e, hb, hc k _ (List.getElem?_eq_getElem hk)⟩


theorem take_eq_succ {α : Type} {xs ys : List α} {k : Nat} (h : xs.take k = ys.take k) (hx : k < xs.length) (hy : k < ys.length) (he : xs[k] = ys[k]) : xs.take (k + 1) = ys.take (k + 1) := by
  rw [List.take_succ_eq_append_getElem hx, List.take_succ_eq_append_getElem hy, h, he]
theorem take_eq_all {α : Type} {xs ys : List α} {k : Nat} (h : xs.take k = ys.take k) (hx : xs.length ≤ k) (hy : ys.length ≤ k) : xs = ys := by
  rwa [List.take_of_length_le hx, List.take_of_length_le hy] at h
theorem ne_of_at {α : Type} {xs ys : List α} {k : Nat} (hx : k < xs.length) (hy : k < ys.length) (he : xs[k] ≠ ys[k]) : xs ≠ ys := by
  rintro rfl; exact he rfl


/-- What a copy in the making holds behind k rounds: k of xs, then zeros. -/
def part {α : Type} (f : α → Value) (z : Value) (xs : List α) (k : Nat) : List Value := (xs.take k).map f ++ List.replicate (xs.length - k) z
theorem part_zero {α : Type} (f : α → Value) (z : Value) (xs : List α) : part f z xs 0 = List.replicate xs.length z := by simp [part]
theorem part_all {α : Type} (f : α → Value) (z : Value) (xs : List α) (k : Nat) (h : xs.length ≤ k) : part f z xs k = xs.map f := by
  simp [part, List.take_of_length_le h, Nat.sub_eq_zero_of_le h]
theorem part_succ {α : Type} (f : α → Value) (z : Value) (xs : List α) (k : Nat) (h : k < xs.length) : (part f z xs k).set k (f xs[k]) = part f z xs (k + 1) := by
  unfold part
  have e : xs.length - k = (xs.length - (k + 1)) + 1 := by omega
  rw [List.set_append_right _ _ (by simp; omega)]
  simp only [List.length_map, List.length_take, Nat.min_eq_left (Nat.le_of_lt h), Nat.sub_self]
  rw [e, List.replicate_succ, List.set_cons_zero, List.take_succ_eq_append_getElem h, List.map_append, List.append_assoc]
  rfl

theorem part_at {α : Type} (f : α → Value) (z : Value) (xs : List α) (k : Nat) (h : k < xs.length) : (part f z xs k)[k]? = some z := by
  unfold part
  have hl : ((xs.take k).map f).length = k := by simp; omega
  rw [List.getElem?_append_right (by omega), hl, Nat.sub_self, List.getElem?_replicate, if_pos (by omega)]
theorem Below.of_grown_none {w w' : World} (h : w.grownBy w' none) : Below w.heap.size w w' := ⟨h.os, h.tape, h.output, h.size, fun k hk => h.block k hk (by simp)⟩
theorem cell_own {w : World} {base e n cap g : Nat} {xs : List Value} {k : Nat} {u : Value} (h : w.ownsRow base e 1 (.slice (some ⟨g, 0, none⟩) n cap) n xs) (hk : k < n) (hu : xs[k]? = some u) : w.cell? ⟨g, k, none⟩ = some u := by
  rw [h.cellAt k (by omega)]; exact hu
theorem Rd.below {α : Type} {f : α → Value} {w w' : World} {B : Nat} {A : Option Addr} {xs : List α} (h : Rd f w B A xs) (hb : Below B w w') : Rd f w' B A xs :=
  ⟨h.1, fun hn => by
    obtain ⟨ad, e, hB, hc⟩ := h.2 hn
    exact ⟨ad, e, hB, fun j x hx => (hb.cell (by unfold Addr.add; split <;> exact hB)).trans (hc j x hx)⟩⟩


/-- w' is w with new blocks, and with writes to the blocks lo .. hi-1 alone. -/
structure Kept (lo hi : Nat) (w w' : World) : Prop where
  os : w'.os = w.os
  tape : w'.tape = w.tape
  output : w'.output = w.output
  size : w.heap.size ≤ w'.heap.size
  block : ∀ k, k < w.heap.size → (k < lo ∨ hi ≤ k) → w'.heap[k]? = w.heap[k]?

theorem Kept.refl (lo hi : Nat) (w : World) : Kept lo hi w w := ⟨rfl, rfl, rfl, Nat.le_refl _, fun _ _ _ => rfl⟩
theorem Kept.trans {lo hi : Nat} {a b c : World} (h : Kept lo hi a b) (k : Kept lo hi b c) : Kept lo hi a c :=
  ⟨k.os.trans h.os, k.tape.trans h.tape, k.output.trans h.output, Nat.le_trans h.size k.size, fun i hi' hr => (k.block i (Nat.lt_of_lt_of_le hi' h.size) hr).trans (h.block i hi' hr)⟩
theorem Kept.trans2 {lo hi lo' hi' : Nat} {a b c : World} (h : Kept lo hi a b) (k : Kept lo' hi' b c) (hr' : hi' ≤ lo' ∨ a.heap.size ≤ lo') : Kept lo hi a c :=
  ⟨k.os.trans h.os, k.tape.trans h.tape, k.output.trans h.output, Nat.le_trans h.size k.size, fun i hi' hr => (k.block i (Nat.lt_of_lt_of_le hi' h.size) (by omega)).trans (h.block i hi' hr)⟩
theorem Kept.wide {lo hi lo' hi' : Nat} {a b : World} (h : Kept lo hi a b) (hl : hi ≤ lo ∨ (lo' ≤ lo ∧ hi ≤ hi')) : Kept lo' hi' a b :=
  ⟨h.os, h.tape, h.output, h.size, fun k hk hr => h.block k hk (by omega)⟩
theorem Kept.drewN {lo hi : Nat} {a b : World} (h : Kept lo hi a b) (n : Nat) : Kept lo hi a (b.drewN n) := ⟨h.os, h.tape, h.output, h.size, h.block⟩
theorem Kept.drew {lo hi : Nat} {a b : World} (h : Kept lo hi a b) : Kept lo hi a b.drew := ⟨h.os, h.tape, h.output, h.size, h.block⟩
theorem Kept.alloc {lo hi : Nat} {a b : World} (h : Kept lo hi a b) (o : Obj) : Kept lo hi a (b.alloc o) :=
  h.trans ⟨rfl, rfl, rfl, by simp, fun k hk _ => Below.heap_alloc _ _ _ hk⟩
theorem Kept.setCell {lo hi : Nat} {a b : World} (h : Kept lo hi a b) {p : Addr} (hp : a.heap.size ≤ p.block ∨ (lo ≤ p.block ∧ p.block < hi)) (u : Value) : Kept lo hi a (b.setCell p u) :=
  ⟨h.os, h.tape, h.output, by simpa [World.setCell] using h.size, fun k hk hr => (Below.heap_setCell _ _ _ _ (by omega)).trans (h.block k hk hr)⟩
theorem Kept.of_grown {a b : World} {row : Option Nat} (h : a.grownBy b row) {lo hi : Nat} (hr : ∀ k, row = some k → lo ≤ k ∧ k < hi) : Kept lo hi a b :=
  ⟨h.os, h.tape, h.output, h.size, fun k hk hk' => h.block k hk (fun e => by have := hr k e.symm; omega)⟩
theorem Kept.of_below {a b : World} (h : Below a.heap.size a b) (lo hi : Nat) : Kept lo hi a b := ⟨h.os, h.tape, h.output, h.size, fun k hk _ => h.block k hk⟩
theorem Kept.below {lo hi B : Nat} {a b : World} (h : Kept lo hi a b) (hB : B ≤ a.heap.size) (hl : hi ≤ lo ∨ B ≤ lo) : Below B a b :=
  ⟨h.os, h.tape, h.output, h.size, fun k hk => h.block k (by omega) (by omega)⟩

/-- A block known whole. -/
def Blk (w : World) (g : Nat) (t : TypeId) (cs : Array Value) : Prop := w.heap[g]? = some (.cells cs t (0, 0))
section
variable {w w' : World} {g : Nat} {t : TypeId} {cs : Array Value}
theorem Blk.lt (h : Blk w g t cs) : g < w.heap.size := by
  rcases Nat.lt_or_ge g w.heap.size with hlt | hge
  · exact hlt
  · unfold Blk at h; rw [Array.getElem?_eq_none hge] at h; cases h
theorem Blk.cell (h : Blk w g t cs) (i : Nat) : w.cell? ⟨g, i, none⟩ = cs[i]? := cell_of_row w g i cs t (0, 0) h
theorem Blk.frozen (h : Blk w g t cs) (i : Nat) : w.frozen? ⟨g, i, none⟩ = false := by
  unfold Blk at h
  simp [World.frozen?, h]
theorem Blk.new (w : World) (t : TypeId) (cs : Array Value) : Blk (w.alloc (.cells cs t)) w.heap.size t cs := heap_alloc_new w _
theorem Blk.alloc (h : Blk w g t cs) (o : Obj) : Blk (w.alloc o) g t cs := (Below.heap_alloc w o g h.lt).trans h
theorem Blk.set_ (h : Blk w g t cs) (i : Nat) (u : Value) : Blk (w.setCell ⟨g, i, none⟩ u) g t (cs.setIfInBounds i u) := by
  unfold Blk at h ⊢
  simp [World.setCell, Array.getElem?_modify, h]
theorem Blk.far (h : Blk w g t cs) {p : Addr} (hp : g ≠ p.block) (u : Value) : Blk (w.setCell p u) g t cs := (Below.heap_setCell w p u g hp).trans h
theorem Blk.kept {lo hi : Nat} (h : Blk w g t cs) (hk : Kept lo hi w w') (hr : hi ≤ lo ∨ g < lo ∨ hi ≤ g) : Blk w' g t cs := (hk.block g h.lt (by omega)).trans h
end

theorem ownsRow_lo {w : World} {base base' size n : Nat} {e : TypeId} {v : Value} {xs : List Value} (h : w.ownsRow base e size v n xs) (hb : base' ≤ base) : w.ownsRow base' e size v n xs := by
  refine ⟨h.1, ?_⟩
  rcases h.2 with h0 | ⟨g, cap, cur, hv, hg, r⟩
  · exact .inl h0
  · exact .inr ⟨g, cap, cur, hv, Nat.le_trans hb hg, r⟩
/-- A row of the call's own, in the blocks lo .. hi-1 (or nil). -/
def Own (w : World) (lo hi : Nat) (e : TypeId) (A : Option Addr) (n c : Nat) (xs : List Value) : Prop := w.ownsRow lo e 1 (.slice A n c) n xs ∧ ∀ ad, A = some ad → ad.block < hi
theorem Own.form {w : World} {lo hi e n c : Nat} {A : Option Addr} {xs : List Value} (h : Own w lo hi e A n c xs) :
    (A = none ∧ n = 0 ∧ c = 0) ∨ ∃ g, A = some ⟨g, 0, none⟩ ∧ lo ≤ g ∧ g < hi ∧ g < w.heap.size := by
  rcases h.1.2 with ⟨hv, hn⟩ | ⟨g, cap, cur, hv, hb, hg, _⟩
  · injection hv with h1 h2 h3
    exact .inl ⟨h1, h2, h3⟩
  · injection hv with h1 h2 h3
    exact .inr ⟨g, h1, hb, h.2 _ h1, (Array.getElem?_eq_some_iff.1 hg).1⟩
theorem Own.len {w : World} {lo hi e n c : Nat} {A : Option Addr} {xs : List Value} (h : Own w lo hi e A n c xs) : xs.length = n := by simpa using h.1.1
theorem Own.kept {w w' : World} {lo hi e n c lo' hi' : Nat} {A : Option Addr} {xs : List Value} (h : Own w lo hi e A n c xs) (hk : Kept lo' hi' w w') (hr : hi' ≤ lo' ∨ hi ≤ lo' ∨ hi' ≤ lo) : Own w' lo hi e A n c xs := by
  refine ⟨⟨h.1.1, ?_⟩, h.2⟩
  rcases h.1.2 with hn | ⟨g, cap, cur, hv, hb, hg, rest⟩
  · exact .inl hn
  · refine .inr ⟨g, cap, cur, hv, hb, ?_, rest⟩
    have := h.2 ⟨g, 0, none⟩ (by injection hv)
    rw [hk.block g (Array.getElem?_eq_some_iff.1 hg).1 (by simp at this; omega)]
    exact hg
theorem Own.far {w : World} {lo hi e n c : Nat} {A : Option Addr} {xs : List Value} (h : Own w lo hi e A n c xs) {p : Addr} (hp : p.block < lo ∨ hi ≤ p.block) (u : Value) : Own (w.setCell p u) lo hi e A n c xs :=
  h.kept (lo' := p.block) (hi' := p.block + 1) ((Kept.refl _ _ _).setCell (by omega) u) (by omega)
theorem Own.alloc {w : World} {lo hi e n c : Nat} {A : Option Addr} {xs : List Value} (h : Own w lo hi e A n c xs) (o : Obj) : Own (w.alloc o) lo hi e A n c xs := h.kept (lo' := 0) (hi' := 0) ((Kept.refl _ _ _).alloc o) (by omega)
theorem Own.wide {w : World} {lo hi e n c lo' hi' : Nat} {A : Option Addr} {xs : List Value} (h : Own w lo hi e A n c xs) (hl : lo' ≤ lo) (hh : hi ≤ hi') : Own w lo' hi' e A n c xs :=
  ⟨ownsRow_lo h.1 hl, fun ad e => Nat.lt_of_lt_of_le (h.2 ad e) hh⟩
theorem Own.rd {α : Type} {f : α → Value} {w : World} {lo hi e n c : Nat} {A : Option Addr} {xs : List α} (h : Own w lo hi e A n c (xs.map f)) (hm : n ≤ maxLen) : Rd f w hi A xs := by
  have hl : xs.length = n := by simpa using h.len
  refine ⟨by omega, fun hn => ?_⟩
  rcases h.form with ⟨_, h0, _⟩ | ⟨g, rfl, _, hg, _⟩
  · omega
  · exact ⟨_, rfl, hg, fun j x hx => h.1.cells (g := g) rfl j (f x) (by rw [List.getElem?_map, hx]; rfl)⟩
theorem Rd.wide {α : Type} {f : α → Value} {w : World} {B B' : Nat} {A : Option Addr} {xs : List α} (h : Rd f w B A xs) (hB : B ≤ B') : Rd f w B' A xs :=
  ⟨h.1, fun hn => by obtain ⟨ad, e, hb, hc⟩ := h.2 hn; exact ⟨ad, e, by omega, hc⟩⟩
theorem Rd.kept {α : Type} {f : α → Value} {w w' : World} {B lo hi : Nat} {A : Option Addr} {xs : List α} (h : Rd f w B A xs) (hB : B ≤ w.heap.size) (hk : Kept lo hi w w') (hr : hi ≤ lo ∨ B ≤ lo) : Rd f w' B A xs :=
  h.below (hk.below hB hr)

/-- The block of a slice's row, as a range. -/
def aLo : Option Addr → Nat | some ad => ad.block | none => 0
def aHi : Option Addr → Nat | some ad => ad.block + 1 | none => 0
theorem Own.range {w : World} {lo hi e n c : Nat} {A : Option Addr} {xs : List Value} (h : Own w lo hi e A n c xs) : aHi A ≤ aLo A ∨ (lo ≤ aLo A ∧ aHi A ≤ hi) := by
  rcases h.form with ⟨rfl, _, _⟩ | ⟨g, rfl, h1, h2, _⟩
  · exact .inl (Nat.le_refl _)
  · exact .inr ⟨h1, h2⟩
theorem Own.other {w w' : World} {lo hi e n c lo' hi' e' n' c' : Nat} {A A' : Option Addr} {xs xs' : List Value} (h : Own w lo hi e A n c xs) (h' : Own w lo' hi' e' A' n' c' xs') (hne : e ≠ e') (hk : Kept (aLo A) (aHi A) w w') : Own w' lo' hi' e' A' n' c' xs' := by
  refine ⟨⟨h'.1.1, ?_⟩, h'.2⟩
  rcases h'.1.2 with hn | ⟨g, cap, cur, hv, hb, hg, rest⟩
  · exact .inl hn
  · refine .inr ⟨g, cap, cur, hv, hb, ?_, rest⟩
    rw [hk.block g (Array.getElem?_eq_some_iff.1 hg).1 ?_]
    · exact hg
    rcases h.1.2 with ⟨hv1, _⟩ | ⟨g1, cap1, cur1, hv1, _, hg1, _⟩
    · injection hv1 with h1
      subst h1
      exact .inr (Nat.zero_le _)
    · injection hv1 with h1
      subst h1
      have : g ≠ g1 := by
        rintro rfl
        rw [hg] at hg1
        injection hg1 with hg1
        injection hg1 with _ ht
        exact hne ht.symm
      show g < g1 ∨ g1 + 1 ≤ g
      omega


theorem own_of_row {w : World} {base e n g cap : Nat} {xs : List Value} (h : w.ownsRow base e 1 (.slice (some ⟨g, 0, none⟩) n cap) n xs) (hi : Nat) (hg : g < hi) : Own w base hi e (some ⟨g, 0, none⟩) n cap xs :=
  ⟨h, fun ad e => by injection e with e; subst e; exact hg⟩
theorem row_lt {w : World} {base e n g cap : Nat} {xs : List Value} (h : w.ownsRow base e 1 (.slice (some ⟨g, 0, none⟩) n cap) n xs) : g < w.heap.size := (h.lt g rfl).2


theorem Kept.alloc0 (w : World) (o : Obj) : Kept 0 0 w (w.alloc o) := (Kept.refl _ _ _).alloc _

theorem own_empty {w : World} {g e base : Nat} (h : Blk w g e #[]) (hb : base ≤ g) : w.ownsRow base e 1 (.slice (some ⟨g, 0, none⟩) 0 0) 0 [] :=
  ⟨rfl, .inr ⟨g, 0, #[], rfl, hb, h, Nat.le_refl _, by unfold maxLen; omega, rfl, rfl⟩⟩
theorem Blk.drew {w : World} {g e : Nat} {cs : Array Value} (h : Blk w g e cs) : Blk w.drew g e cs := h
theorem kept_of_row {a b : World} {g : Nat} (h : a.grownBy b (some g)) : Kept g (g + 1) a b := Kept.of_grown h (by rintro k hk; injection hk with hk; omega)
theorem app_kept {W cur w2 : World} (kc : Kept 0 0 W cur) {X : Nat} (hX : W.heap.size ≤ X) (hg : cur.grownBy w2 (some X)) : Kept 0 0 W w2 := kc.trans2 (kept_of_row hg) (.inr hX)

theorem blk_new1 (w : World) (o : Obj) (t : TypeId) : Blk ((w.alloc o).alloc (.cells #[] t)) (w.heap.size + 1) t #[] := by have := Blk.new (w.alloc o) t #[]; simpa using this
theorem Own.beside {w w' : World} {lo hi e n c : Nat} {A : Option Addr} {xs : List Value} (h : Own w lo hi e A n c xs) {g e' : Nat} {cs : Array Value} (hb : Blk w g e' cs) (hne : e ≠ e') (hk : Kept g (g + 1) w w') : Own w' lo hi e A n c xs := by
  refine ⟨⟨h.1.1, ?_⟩, h.2⟩
  rcases h.1.2 with hn | ⟨g1, cap, cur, hv, hl, hg, rest⟩
  · exact .inl hn
  · refine .inr ⟨g1, cap, cur, hv, hl, ?_, rest⟩
    have : g1 ≠ g := by
      rintro rfl
      unfold Blk at hb
      rw [hg] at hb
      injection hb with hb
      injection hb with _ ht
      exact hne ht
    rw [hk.block g1 (Array.getElem?_eq_some_iff.1 hg).1 (by omega)]
    exact hg


theorem cell_kept {w w' : World} {p : Addr} {u : Value} (hk : Kept 0 0 w w') (h : w.cell? p = some u) : w'.cell? p = some u :=
  ((hk.below (Nat.le_refl _) (.inl (Nat.le_refl _))).cell (World.block_lt_of_cell? w _ h)).trans h


theorem Own.ne {w : World} {lo hi e n c lo' hi' e' n' c' g g' : Nat} {xs xs' : List Value} (h : Own w lo hi e (some ⟨g, 0, none⟩) n c xs) (h' : Own w lo' hi' e' (some ⟨g', 0, none⟩) n' c' xs') (hne : e ≠ e') : g ≠ g' := by
  rintro rfl
  rcases h.1.2 with ⟨hv, _⟩ | ⟨g1, _, _, hv, _, hg, _⟩
  · injection hv with hv; cases hv
  rcases h'.1.2 with ⟨hv', _⟩ | ⟨g2, _, _, hv', _, hg', _⟩
  · injection hv' with hv'; cases hv'
  injection hv with hv _ _
  injection hv with hv
  injection hv with hv
  injection hv' with hv' _ _
  injection hv' with hv'
  injection hv' with hv'
  subst hv
  subst hv'
  rw [hg] at hg'
  injection hg' with hg'
  injection hg' with _ ht
  exact hne ht

theorem Own.set_ {w : World} {lo hi e n c g : Nat} {xs : List Value} (h : Own w lo hi e (some ⟨g, 0, none⟩) n c xs) (k : Nat) (u : Value) : Own (w.setCell ⟨g, k, none⟩ u) lo hi e (some ⟨g, 0, none⟩) n c (xs.set k u) :=
  ⟨(h.1.stored k u).1, h.2⟩
theorem Own.farB {w : World} {lo hi e n c g : Nat} {xs : List Value} (h : Own w lo hi e (some ⟨g, 0, none⟩) n c xs) {p : Addr} (hp : g ≠ p.block) (u : Value) : Own (w.setCell p u) lo hi e (some ⟨g, 0, none⟩) n c xs :=
  ⟨ownsRow_setCell_other h.1 (by intro e; injection e with e; exact hp e) u, h.2⟩

theorem row_kept {w w' : World} {lo e size n : Nat} {v : Value} {xs : List Value} (h : w.ownsRow lo e size v n xs) (hk : Kept 0 0 w w') : w'.ownsRow lo e size v n xs := by
  refine ⟨h.1, ?_⟩
  rcases h.2 with hn | ⟨g, cap, cur, hv, hb, hg, rest⟩
  · exact .inl hn
  · exact .inr ⟨g, cap, cur, hv, hb, (hk.block g (Array.getElem?_eq_some_iff.1 hg).1 (.inr (Nat.zero_le _))).trans hg, rest⟩
theorem row_ne {w : World} {lo e size n g t : Nat} {v : Value} {xs : List Value} {cs : Array Value} (h : w.ownsRow lo e size v n xs) (hg : Blk w g t cs) (hne : e ≠ t) : v.ownBlock ≠ some g := by
  rcases h.2 with ⟨rfl, _⟩ | ⟨g', cap, cur, rfl, _, hh, _⟩
  · simp [Value.ownBlock]
  · intro he
    have : g' = g := by simpa [Value.ownBlock] using he
    subst this
    unfold Blk at hg
    rw [hh] at hg
    injection hg with hg
    injection hg with _ ht
    exact hne ht
theorem blk_grown {w w' : World} {row : Option Nat} {g t : Nat} {cs : Array Value} (h : Blk w g t cs) (hb : w.grownBy w' row) (hg : row ≠ some g) : Blk w' g t cs := (hb.block g h.lt (Ne.symm hg)).trans h

theorem Kept.of_below_from {w w' : World} {B : Nat} (h : Below B w w') : Kept B w.heap.size w w' := ⟨h.os, h.tape, h.output, h.size, fun k hk hr => h.block k (by omega)⟩
theorem Blk.below {w w' : World} {g t B : Nat} {cs : Array Value} (h : Blk w g t cs) (hb : Below B w w') (hg : g < B) : Blk w' g t cs := (hb.block g hg).trans h
theorem row_other {w w' : World} {lo e size n g : Nat} {v : Value} {xs : List Value} (h : w.ownsRow lo e size v n xs) (hg : v.ownBlock ≠ some g) (hk : Kept g (g + 1) w w') : w'.ownsRow lo e size v n xs := by
  refine ⟨h.1, ?_⟩
  rcases h.2 with hn | ⟨g1, cap, cur, rfl, hl, hh, rest⟩
  · exact .inl hn
  · have : g1 ≠ g := fun e => hg (by rw [e]; rfl)
    exact .inr ⟨g1, cap, cur, rfl, hl, (hk.block g1 (Array.getElem?_eq_some_iff.1 hh).1 (by omega)).trans hh, rest⟩
theorem blk_ne {w : World} {g t g' t' : Nat} {cs cs' : Array Value} (h : Blk w g t cs) (h' : Blk w g' t' cs') (hne : t ≠ t') : g ≠ g' := by
  rintro rfl
  unfold Blk at h h'
  rw [h] at h'
  injection h' with h'
  injection h' with _ ht
  exact hne ht
theorem blk_beside {w w' : World} {g t g' : Nat} {cs : Array Value} (h : Blk w g t cs) (hne : g ≠ g') (hk : Kept g' (g' + 1) w w') : Blk w' g t cs := h.kept hk (by omega)

theorem row_blk {w : World} {lo e size n b : Nat} {v : Value} {xs : List Value} (h : w.ownsRow lo e size v n xs) (hb : v.ownBlock = some b) : ∃ cs, Blk w b e cs := by
  rcases h.2 with ⟨rfl, _⟩ | ⟨g, cap, cur, rfl, _, hh, _⟩
  · cases hb
  · injection hb with hb
    subst hb
    exact ⟨cur, hh⟩


theorem Kept.regrown (W : World) (d : Nat) (os : Array Obj) : Kept 0 0 W (grow (redrawn W d) os) := Kept.of_below (below_regrown W d os) _ _
theorem regrown_call {P : Program} {f : FuncId} {args : Array Value} {W : World} {d : Nat} {os : Array Obj} {v : Value}
    (h : Calls P f args (grow (redrawn W d) os) fun e w' => e = .returned v ∧ Kept 0 0 (grow (redrawn W d) os) w') : Calls P f args (grow (redrawn W d) os) fun e w'' => e = .returned v ∧ ∃ p : Regrown, w'' = grow (redrawn W p.d) p.os :=
  Calls.regrown_of (h.mono fun _ _ ⟨he, hk⟩ => ⟨he, hk.below (Nat.le_refl _) (.inl (Nat.le_refl _))⟩)
theorem regrown_same {P : Program} {f : FuncId} {args : Array Value} {W : World} {d : Nat} {os : Array Obj} {v : Value}
    (h : Calls P f args (grow (redrawn W d) os) fun e w' => e = .returned v ∧ (grow (redrawn W d) os) = w') : Calls P f args (grow (redrawn W d) os) fun e w'' => e = .returned v ∧ ∃ p : Regrown, w'' = grow (redrawn W p.d) p.os :=
  h.mono fun _ _ ⟨he, hk⟩ => ⟨he, ⟨⟨d, os⟩, hk.symm⟩⟩
end Go.Proofs.Ytfpnpjpcjbndoaa
