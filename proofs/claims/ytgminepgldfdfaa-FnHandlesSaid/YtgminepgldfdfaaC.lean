/- What a call keeps of memory, rows of the call itself, and the helper contracts in these words; no condition beyond what each theorem states. -/
import Derived.Test.YtgminepgldfdfaaB
import Derived.Handy
namespace Go.Proofs.Ytgminepgldfdfaa
open Go.RowKit

/-- w' is w with new blocks, and with writes to the blocks lo .. hi-1 alone. -/
structure Kept (lo hi : Nat) (w w' : World) : Prop where
  os : w'.os = w.os
  tape : w'.tape = w.tape
  output : w'.output = w.output
  size : w.heap.size ≤ w'.heap.size
  block : ∀ k, k < w.heap.size → (k < lo ∨ hi ≤ k) → w'.heap[k]? = w.heap[k]?

theorem Kept.refl (lo hi : Nat) (w : World) : Kept lo hi w w := ⟨rfl, rfl, rfl, Nat.le_refl _, fun _ _ _ => rfl⟩
theorem Kept.trans {lo hi : Nat} {a b c : World} (h : Kept lo hi a b) (k : Kept lo hi b c) : Kept lo hi a c :=
  ⟨k.os.trans h.os, k.tape.trans h.tape, k.output.trans h.output, Nat.le_trans h.size k.size, fun i hi' hr => (k.block i (Nat.lt_of_lt_of_le hi' h.size) hr).trans (h.block i hi' hr)⟩
theorem Kept.trans2 {lo hi lo' hi' : Nat} {a b c : World} (h : Kept lo hi a b) (k : Kept lo' hi' b c) (hr' : hi' ≤ lo' ∨ a.heap.size ≤ lo') : Kept lo hi a c :=
  ⟨k.os.trans h.os, k.tape.trans h.tape, k.output.trans h.output, Nat.le_trans h.size k.size, fun i hi' hr => (k.block i (Nat.lt_of_lt_of_le hi' h.size) (by omega)).trans (h.block i hi' hr)⟩
theorem Kept.wide {lo hi lo' hi' : Nat} {a b : World} (h : Kept lo hi a b) (hl : hi ≤ lo ∨ (lo' ≤ lo ∧ hi ≤ hi')) : Kept lo' hi' a b :=
  ⟨h.os, h.tape, h.output, h.size, fun k hk hr => h.block k hk (by omega)⟩
theorem Kept.drewN {lo hi : Nat} {a b : World} (h : Kept lo hi a b) (n : Nat) : Kept lo hi a (b.drewN n) := ⟨h.os, h.tape, h.output, h.size, h.block⟩
theorem Kept.drew {lo hi : Nat} {a b : World} (h : Kept lo hi a b) : Kept lo hi a b.drew := ⟨h.os, h.tape, h.output, h.size, h.block⟩
theorem Kept.alloc {lo hi : Nat} {a b : World} (h : Kept lo hi a b) (o : Obj) : Kept lo hi a (b.alloc o) :=
  h.trans ⟨rfl, rfl, rfl, by simp, fun k hk _ => Below.heap_alloc _ _ _ hk⟩
theorem Kept.setCell {lo hi : Nat} {a b : World} (h : Kept lo hi a b) {p : Addr} (hp : a.heap.size ≤ p.block ∨ (lo ≤ p.block ∧ p.block < hi)) (u : Value) : Kept lo hi a (b.setCell p u) :=
  ⟨h.os, h.tape, h.output, by simpa [World.setCell] using h.size, fun k hk hr => (Below.heap_setCell _ _ _ _ (by omega)).trans (h.block k hk hr)⟩
theorem Kept.of_grown {a b : World} {row : Option Nat} (h : a.grownBy b row) {lo hi : Nat} (hr : ∀ k, row = some k → lo ≤ k ∧ k < hi) : Kept lo hi a b :=
  ⟨h.os, h.tape, h.output, h.size, fun k hk hk' => h.block k hk (fun e => by have := hr k e.symm; omega)⟩
theorem Kept.of_below {a b : World} (h : Below a.heap.size a b) (lo hi : Nat) : Kept lo hi a b := ⟨h.os, h.tape, h.output, h.size, fun k hk _ => h.block k hk⟩
theorem Kept.below {lo hi B : Nat} {a b : World} (h : Kept lo hi a b) (hB : B ≤ a.heap.size) (hl : hi ≤ lo ∨ B ≤ lo) : Below B a b :=
  ⟨h.os, h.tape, h.output, h.size, fun k hk => h.block k (by omega) (by omega)⟩

/-- A block known whole. -/
def Blk (w : World) (g : Nat) (t : TypeId) (cs : Array Value) : Prop := w.heap[g]? = some (.cells cs t (0, 0))
section
variable {w w' : World} {g : Nat} {t : TypeId} {cs : Array Value}
theorem Blk.lt (h : Blk w g t cs) : g < w.heap.size := by
  rcases Nat.lt_or_ge g w.heap.size with hlt | hge
  · exact hlt
  · unfold Blk at h; rw [Array.getElem?_eq_none hge] at h; cases h
theorem Blk.cell (h : Blk w g t cs) (i : Nat) : w.cell? ⟨g, i, none⟩ = cs[i]? := cell_of_row w g i cs t (0, 0) h
theorem Blk.frozen (h : Blk w g t cs) (i : Nat) : w.frozen? ⟨g, i, none⟩ = false := by
  unfold Blk at h
  simp [World.frozen?, h]
theorem Blk.new (w : World) (t : TypeId) (cs : Array Value) : Blk (w.alloc (.cells cs t)) w.heap.size t cs := heap_alloc_new w _
theorem Blk.alloc (h : Blk w g t cs) (o : Obj) : Blk (w.alloc o) g t cs := (Below.heap_alloc w o g h.lt).trans h
theorem Blk.set_ (h : Blk w g t cs) (i : Nat) (u : Value) : Blk (w.setCell ⟨g, i, none⟩ u) g t (cs.setIfInBounds i u) := by
  unfold Blk at h ⊢
  simp [World.setCell, Array.getElem?_modify, h]
theorem Blk.far (h : Blk w g t cs) {p : Addr} (hp : g ≠ p.block) (u : Value) : Blk (w.setCell p u) g t cs := (Below.heap_setCell w p u g hp).trans h
theorem Blk.kept {lo hi : Nat} (h : Blk w g t cs) (hk : Kept lo hi w w') (hr : hi ≤ lo ∨ g < lo ∨ hi ≤ g) : Blk w' g t cs := (hk.block g h.lt (by omega)).trans h
end

theorem ownsRow_lo {w : World} {base base' size n : Nat} {e : TypeId} {v : Value} {xs : List Value} (h : w.ownsRow base e size v n xs) (hb : base' ≤ base) : w.ownsRow base' e size v n xs := by
  refine ⟨h.1, ?_⟩
  rcases h.2 with h0 | ⟨g, cap, cur, hv, hg, r⟩
  · exact .inl h0
  · exact .inr ⟨g, cap, cur, hv, Nat.le_trans hb hg, r⟩
/-- A row of the call's own, in the blocks lo .. hi-1 (or nil). -/
def Own (w : World) (lo hi : Nat) (e : TypeId) (A : Option Addr) (n c : Nat) (xs : List Value) : Prop := w.ownsRow lo e 1 (.slice A n c) n xs ∧ ∀ ad, A = some ad → ad.block < hi
theorem Own.form {w : World} {lo hi e n c : Nat} {A : Option Addr} {xs : List Value} (h : Own w lo hi e A n c xs) :
    (A = none ∧ n = 0 ∧ c = 0) ∨ ∃ g, A = some ⟨g, 0, none⟩ ∧ lo ≤ g ∧ g < hi ∧ g < w.heap.size := by
  rcases h.1.2 with ⟨hv, hn⟩ | ⟨g, cap, cur, hv, hb, hg, _⟩
  · injection hv with h1 h2 h3
    exact .inl ⟨h1, h2, h3⟩
  · injection hv with h1 h2 h3
    exact .inr ⟨g, h1, hb, h.2 _ h1, (Array.getElem?_eq_some_iff.1 hg).1⟩
theorem Own.len {w : World} {lo hi e n c : Nat} {A : Option Addr} {xs : List Value} (h : Own w lo hi e A n c xs) : xs.length = n := by simpa using h.1.1
theorem Own.kept {w w' : World} {lo hi e n c lo' hi' : Nat} {A : Option Addr} {xs : List Value} (h : Own w lo hi e A n c xs) (hk : Kept lo' hi' w w') (hr : hi' ≤ lo' ∨ hi ≤ lo' ∨ hi' ≤ lo) : Own w' lo hi e A n c xs := by
  refine ⟨⟨h.1.1, ?_⟩, h.2⟩
  rcases h.1.2 with hn | ⟨g, cap, cur, hv, hb, hg, rest⟩
  · exact .inl hn
  · refine .inr ⟨g, cap, cur, hv, hb, ?_, rest⟩
    have := h.2 ⟨g, 0, none⟩ (by injection hv)
    rw [hk.block g (Array.getElem?_eq_some_iff.1 hg).1 (by simp at this; omega)]
    exact hg
theorem Own.far {w : World} {lo hi e n c : Nat} {A : Option Addr} {xs : List Value} (h : Own w lo hi e A n c xs) {p : Addr} (hp : p.block < lo ∨ hi ≤ p.block) (u : Value) : Own (w.setCell p u) lo hi e A n c xs :=
  h.kept (lo' := p.block) (hi' := p.block + 1) ((Kept.refl _ _ _).setCell (by omega) u) (by omega)
theorem Own.alloc {w : World} {lo hi e n c : Nat} {A : Option Addr} {xs : List Value} (h : Own w lo hi e A n c xs) (o : Obj) : Own (w.alloc o) lo hi e A n c xs := h.kept (lo' := 0) (hi' := 0) ((Kept.refl _ _ _).alloc o) (by omega)
theorem Own.wide {w : World} {lo hi e n c lo' hi' : Nat} {A : Option Addr} {xs : List Value} (h : Own w lo hi e A n c xs) (hl : lo' ≤ lo) (hh : hi ≤ hi') : Own w lo' hi' e A n c xs :=
  ⟨ownsRow_lo h.1 hl, fun ad e => Nat.lt_of_lt_of_le (h.2 ad e) hh⟩
theorem Own.rd {α : Type} {f : α → Value} {w : World} {lo hi e n c : Nat} {A : Option Addr} {xs : List α} (h : Own w lo hi e A n c (xs.map f)) (hm : n ≤ maxLen) : Rd f w hi A xs := by
  have hl : xs.length = n := by simpa using h.len
  refine ⟨by omega, fun hn => ?_⟩
  rcases h.form with ⟨_, h0, _⟩ | ⟨g, rfl, _, hg, _⟩
  · omega
  · exact ⟨_, rfl, hg, fun j x hx => h.1.cells (g := g) rfl j (f x) (by rw [List.getElem?_map, hx]; rfl)⟩
theorem Rd.wide {α : Type} {f : α → Value} {w : World} {B B' : Nat} {A : Option Addr} {xs : List α} (h : Rd f w B A xs) (hB : B ≤ B') : Rd f w B' A xs :=
  ⟨h.1, fun hn => by obtain ⟨ad, e, hb, hc⟩ := h.2 hn; exact ⟨ad, e, by omega, hc⟩⟩
theorem Rd.kept {α : Type} {f : α → Value} {w w' : World} {B lo hi : Nat} {A : Option Addr} {xs : List α} (h : Rd f w B A xs) (hB : B ≤ w.heap.size) (hk : Kept lo hi w w') (hr : hi ≤ lo ∨ B ≤ lo) : Rd f w' B A xs :=
  h.below (hk.below hB hr)

/-- The block of a slice's row, as a range. -/
def aLo : Option Addr → Nat | some ad => ad.block | none => 0
def aHi : Option Addr → Nat | some ad => ad.block + 1 | none => 0
theorem Own.range {w : World} {lo hi e n c : Nat} {A : Option Addr} {xs : List Value} (h : Own w lo hi e A n c xs) : aHi A ≤ aLo A ∨ (lo ≤ aLo A ∧ aHi A ≤ hi) := by
  rcases h.form with ⟨rfl, _, _⟩ | ⟨g, rfl, h1, h2, _⟩
  · exact .inl (Nat.le_refl _)
  · exact .inr ⟨h1, h2⟩
theorem Own.other {w w' : World} {lo hi e n c lo' hi' e' n' c' : Nat} {A A' : Option Addr} {xs xs' : List Value} (h : Own w lo hi e A n c xs) (h' : Own w lo' hi' e' A' n' c' xs') (hne : e ≠ e') (hk : Kept (aLo A) (aHi A) w w') : Own w' lo' hi' e' A' n' c' xs' := by
  refine ⟨⟨h'.1.1, ?_⟩, h'.2⟩
  rcases h'.1.2 with hn | ⟨g, cap, cur, hv, hb, hg, rest⟩
  · exact .inl hn
  · refine .inr ⟨g, cap, cur, hv, hb, ?_, rest⟩
    rw [hk.block g (Array.getElem?_eq_some_iff.1 hg).1 ?_]
    · exact hg
    rcases h.1.2 with ⟨hv1, _⟩ | ⟨g1, cap1, cur1, hv1, _, hg1, _⟩
    · injection hv1 with h1
      subst h1
      exact .inr (Nat.zero_le _)
    · injection hv1 with h1
      subst h1
      have : g ≠ g1 := by
        rintro rfl
        rw [hg] at hg1
        injection hg1 with hg1
        injection hg1 with _ ht
        exact hne ht.symm
      show g < g1 ∨ g1 + 1 ≤ g
      omega

set_option maxHeartbeats 400000 in
theorem markI_own (k : Int) (n : Nat) (ys : List Int) (A : Option Addr) (c lo hi : Nat) (w : World) (h : Own w lo hi 2 A n c (ys.map (Value.int .i64))) (hk0 : 0 ≤ k) (hk : k ≤ 4000000) (hn : n ≤ 1048576) :
    Calls Try.prog 43 #[.slice A n c, .int .i64 k] w fun e w' => e = .returned (.int .i64 (k + (n : Int))) ∧
      Own w' lo hi 2 A n c ((marksI k n).map (Value.int .i64)) ∧ Kept (aLo A) (aHi A) w w' := by
  rcases h.form with ⟨rfl, rfl, rfl⟩ | ⟨g, rfl, h1, h2, _⟩
  · go_enter Try.func43, Try.ntmps43
    go_wp2
    go_rounds 1
    go_ret
    exact ⟨ret_int (by simp), ⟨by simp [marksI]; exact World.ownsRow_nil _ _ _ _, by simp⟩, Kept.refl _ _ _⟩
  · exact (markI_any k n ys g c lo w h.1 hk0 hk hn).mono fun e w' ⟨he, ho, hg⟩ => ⟨he, ⟨ho, h.2⟩, Kept.of_grown hg (by rintro k hk; injection hk with hk; show g ≤ k ∧ k < g + 1; omega)⟩
set_option maxHeartbeats 400000 in
theorem markB_own (k : Int) (n : Nat) (ys : List Bool) (A : Option Addr) (c lo hi : Nat) (w : World) (h : Own w lo hi 4 A n c (ys.map Value.bool)) (hk0 : 0 ≤ k) (hk : k ≤ 4000000) (hn : n ≤ 1048576) :
    Calls Try.prog 44 #[.slice A n c, .int .i64 k] w fun e w' => e = .returned (.int .i64 (k + (n : Int))) ∧
      Own w' lo hi 4 A n c ((marksB k n).map Value.bool) ∧ Kept (aLo A) (aHi A) w w' := by
  rcases h.form with ⟨rfl, rfl, rfl⟩ | ⟨g, rfl, h1, h2, _⟩
  · go_enter Try.func44, Try.ntmps44
    go_wp2
    go_rounds 1
    go_ret
    exact ⟨ret_int (by simp), ⟨by simp [marksB]; exact World.ownsRow_nil _ _ _ _, by simp⟩, Kept.refl _ _ _⟩
  · exact (markB_any k n ys g c lo w h.1 hk0 hk hn).mono fun e w' ⟨he, ho, hg⟩ => ⟨he, ⟨ho, h.2⟩, Kept.of_grown hg (by rintro k hk; injection hk with hk; show g ≤ k ∧ k < g + 1; omega)⟩

theorem own_of_row {w : World} {base e n g cap : Nat} {xs : List Value} (h : w.ownsRow base e 1 (.slice (some ⟨g, 0, none⟩) n cap) n xs) (hi : Nat) (hg : g < hi) : Own w base hi e (some ⟨g, 0, none⟩) n cap xs :=
  ⟨h, fun ad e => by injection e with e; subst e; exact hg⟩
theorem row_lt {w : World} {base e n g cap : Nat} {xs : List Value} (h : w.ownsRow base e 1 (.slice (some ⟨g, 0, none⟩) n cap) n xs) : g < w.heap.size := (h.lt g rfl).2

theorem toI_own (xs : List Int) (A : Option Addr) (c : Nat) (w : World) (h : Rd (Value.int .i64) w w.heap.size A xs) (hn : xs.length ≤ 1048576) :
    Calls Try.prog 39 #[.slice A xs.length c] w fun e w' => ∃ (B : Option Addr) (b : Nat), e = .returned (.slice B xs.length b) ∧ Own w' w.heap.size w'.heap.size 2 B xs.length b (xs.map (Value.int .i64)) ∧ Kept 0 0 w w' :=
  (toI_any xs A c w h hn).mono fun _ _ ⟨he, ho, hb⟩ => ⟨_, _, he, own_of_row ho _ (row_lt ho), Kept.of_below hb _ _⟩
theorem toB_own (xs : List Bool) (A : Option Addr) (c : Nat) (w : World) (h : Rd Value.bool w w.heap.size A xs) (hn : xs.length ≤ 1048576) :
    Calls Try.prog 40 #[.slice A xs.length c] w fun e w' => ∃ (B : Option Addr) (b : Nat), e = .returned (.slice B xs.length b) ∧ Own w' w.heap.size w'.heap.size 4 B xs.length b (xs.map Value.bool) ∧ Kept 0 0 w w' :=
  (toB_any xs A c w h hn).mono fun _ _ ⟨he, ho, hb⟩ => ⟨_, _, he, own_of_row ho _ (row_lt ho), Kept.of_below hb _ _⟩
end Go.Proofs.Ytgminepgldfdfaa
