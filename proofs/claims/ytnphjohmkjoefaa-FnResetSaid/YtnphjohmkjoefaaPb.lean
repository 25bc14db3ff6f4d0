/- Linked heaps: trees that know the block of each element, how they lie in memory, what a call may turn of it; no function of the program is named here. -/
import Derived.Test.YtnphjohmkjoefaaLv
namespace Go.Proofs.Ytnphjohmkjoefaa
open Go.RowKit

/-- A heap whose elements lie in blocks. -/
inductive PT where
  | nil : PT
  | node (g : Nat) (d s : Int) (l r : PT) : PT

/-- A pointer to a block. -/
abbrev toBlk (g : Nat) : Value := .pointer (some ⟨g, 0, none⟩)
namespace PT
def tree : PT → HTree
  | nil => .nil
  | node _ d s l r => .node d s l.tree r.tree
def blocks : PT → List Nat
  | nil => []
  | node g _ _ l r => g :: (l.blocks ++ r.blocks)
def adr : PT → Option Addr
  | nil => none
  | node g _ _ _ _ => some ⟨g, 0, none⟩
/-- A pointer to the root. -/
abbrev ptr (t : PT) : Value := .pointer t.adr
def rank : PT → Nat
  | nil => 0
  | node _ _ _ _ r => r.rank + 1
def size : PT → Nat
  | nil => 0
  | node _ _ _ l r => l.size + r.size + 1
theorem rank_tree (t : PT) : t.tree.rank = t.rank := by
  induction t with
  | nil => rfl
  | node g d s l r hl hr => simp [tree, rank, HTree.rank, hr]
theorem size_tree (t : PT) : t.tree.size = t.size := by
  induction t with
  | nil => rfl
  | node g d s l r hl hr => simp [tree, size, HTree.size, hl, hr]
theorem rank_size (t : PT) : t.rank ≤ t.size := by
  induction t with
  | nil => exact Nat.le_refl _
  | node g d s l r hl hr => simp only [rank, size]; omega
end PT

/-- How a linked heap lies in memory; par: what its root has as its parent. -/
def Lay (w : World) : Value → PT → Prop
  | _, .nil => True
  | par, .node g d s l r => Blk w g 61 #[.int .i64 d, .int .i64 s, par, l.ptr, r.ptr] ∧ Lay w (toBlk g) l ∧ Lay w (toBlk g) r

/-- w' is w but for the blocks of S; nothing is made. -/
structure Turned (S : List Nat) (w w' : World) : Prop where
  os : w'.os = w.os
  tape : w'.tape = w.tape
  output : w'.output = w.output
  size : w'.heap.size = w.heap.size
  block : ∀ k, k ∉ S → w'.heap[k]? = w.heap[k]?
section
variable {S S' : List Nat} {a b c w w' : World} {g : Nat} {t : TypeId} {cs : Array Value} {par : Value} {u : PT}
theorem Turned.refl (S : List Nat) (w : World) : Turned S w w := ⟨rfl, rfl, rfl, rfl, fun _ _ => rfl⟩
theorem Turned.trans (h : Turned S a b) (k : Turned S b c) : Turned S a c :=
  ⟨k.os.trans h.os, k.tape.trans h.tape, k.output.trans h.output, k.size.trans h.size, fun i hi => (k.block i hi).trans (h.block i hi)⟩
theorem Turned.mono (h : Turned S a b) (hs : ∀ x ∈ S, x ∈ S') : Turned S' a b := ⟨h.os, h.tape, h.output, h.size, fun i hi => h.block i (fun hx => hi (hs i hx))⟩
theorem Turned.drewN (h : Turned S a b) (n : Nat) : Turned S a (b.drewN n) := ⟨h.os, h.tape, h.output, h.size, h.block⟩
theorem Turned.drew (h : Turned S a b) : Turned S a b.drew := ⟨h.os, h.tape, h.output, h.size, h.block⟩
theorem Turned.setCell (h : Turned S a b) {p : Addr} (hp : p.block ∈ S) (v : Value) : Turned S a (b.setCell p v) :=
  ⟨h.os, h.tape, h.output, by simpa [World.setCell] using h.size, fun k hk => (Below.heap_setCell _ _ _ _ (fun e => hk (by rw [e]; exact hp))).trans (h.block k hk)⟩
theorem Turned.kept (h : Turned S a b) {lo hi : Nat} (hs : ∀ x ∈ S, lo ≤ x ∧ x < hi) : Kept lo hi a b :=
  ⟨h.os, h.tape, h.output, Nat.le_of_eq h.size.symm, fun k _ hr => h.block k (fun hx => by have := hs k hx; omega)⟩
theorem Kept.turned (k : Kept 0 0 a b) (h : Turned S b c) (hs : ∀ x ∈ S, a.heap.size ≤ x) : Kept 0 0 a c :=
  ⟨h.os.trans k.os, h.tape.trans k.tape, h.output.trans k.output, by rw [h.size]; exact k.size, fun i hi hr => (h.block i (fun hx => by have := hs i hx; omega)).trans (k.block i hi hr)⟩
theorem Blk.turned (h : Blk w g t cs) (k : Turned S w w') (hg : g ∉ S) : Blk w' g t cs := (k.block g hg).trans h
theorem Lay.turned : ∀ {u : PT} {par : Value}, Lay w par u → Turned S w w' → (∀ g ∈ u.blocks, g ∉ S) → Lay w' par u
  | .nil, _, _, _, _ => trivial
  | .node g d s l r, par, h, k, hs => ⟨h.1.turned k (hs g (by simp [PT.blocks])), h.2.1.turned k (fun x hx => hs x (by simp [PT.blocks, hx])), h.2.2.turned k (fun x hx => hs x (by simp [PT.blocks, hx]))⟩
theorem Lay.kept {lo hi : Nat} : ∀ {u : PT} {par : Value}, Lay w par u → Kept lo hi w w' → (hi ≤ lo ∨ ∀ g ∈ u.blocks, g < lo ∨ hi ≤ g) → Lay w' par u
  | .nil, _, _, _, _ => trivial
  | .node g d s l r, par, h, k, hs => ⟨h.1.kept k (hs.imp id (fun hs => hs g (by simp [PT.blocks]))), h.2.1.kept k (hs.imp id (fun hs x hx => hs x (by simp [PT.blocks, hx]))), h.2.2.kept k (hs.imp id (fun hs x hx => hs x (by simp [PT.blocks, hx])))⟩
theorem Lay.lt : ∀ {u : PT} {par : Value}, Lay w par u → ∀ g ∈ u.blocks, g < w.heap.size
  | .nil, _, _, g, hg => by simp [PT.blocks] at hg
  | .node g d s l r, par, h, x, hx => by
    simp only [PT.blocks, List.mem_cons, List.mem_append] at hx
    rcases hx with rfl | hx | hx
    · exact h.1.lt
    · exact h.2.1.lt x hx
    · exact h.2.2.lt x hx
/-- Another parent. -/
theorem Lay.hung {p' : Value} {d s : Int} {l r : PT} (h : Lay w par (.node g d s l r)) (hg : g ∉ l.blocks) (hg' : g ∉ r.blocks) : Lay (w.setCell ⟨g, 2, none⟩ p') p' (.node g d s l r) := by
  have k : Turned [g] w (w.setCell ⟨g, 2, none⟩ p') := (Turned.refl _ _).setCell (by simp) _
  refine ⟨h.1.set_ 2 p', h.2.1.turned k ?_, h.2.2.turned k ?_⟩
  · intro x hx hy; simp at hy; subst hy; exact hg hx
  · intro x hx hy; simp at hy; subst hy; exact hg' hx
end

/-! ### Joining and merging -/
def joinP (g : Nat) (d s : Int) (a b : PT) : PT := if a.rank < b.rank then .node g d s b a else .node g d s a b
theorem joinP_tree (g : Nat) (d s : Int) (a b : PT) : (joinP g d s a b).tree = joinT d s a.tree b.tree := by
  unfold joinP joinT
  rw [PT.rank_tree, PT.rank_tree]
  split <;> rfl
theorem joinP_blocks (g : Nat) (d s : Int) (a b : PT) : (joinP g d s a b).blocks.Perm (g :: (a.blocks ++ b.blocks)) := by
  unfold joinP
  split
  · exact List.Perm.cons _ List.perm_append_comm
  · exact List.Perm.refl _
theorem joinP_adr (g : Nat) (d s : Int) (a b : PT) : (joinP g d s a b).adr = some ⟨g, 0, none⟩ := by unfold joinP; split <;> rfl
theorem joinP_size (g : Nat) (d s : Int) (a b : PT) : (joinP g d s a b).size = a.size + b.size + 1 := by
  unfold joinP
  split
  · simp only [PT.size]; omega
  · rfl
def mergeP : PT → PT → PT
  | .nil, b => b
  | .node g d s l r, .nil => .node g d s l r
  | .node g d s l r, .node g' d' s' l' r' =>
    if aheadB ⟨d', s', 0⟩ ⟨d, s, 0⟩ then joinP g' d' s' l' (mergeP r' (.node g d s l r)) else joinP g d s l (mergeP r (.node g' d' s' l' r'))
termination_by a b => a.size + b.size
decreasing_by all_goals (simp only [PT.size]; omega)
theorem mergeP_nil_left (b : PT) : mergeP .nil b = b := by rw [mergeP]
theorem mergeP_nil_right (a : PT) : mergeP a .nil = a := by cases a <;> rw [mergeP]
theorem mergeP_node (g : Nat) (d s : Int) (l r : PT) (g' : Nat) (d' s' : Int) (l' r' : PT) : mergeP (.node g d s l r) (.node g' d' s' l' r') =
    if aheadB ⟨d', s', 0⟩ ⟨d, s, 0⟩ then joinP g' d' s' l' (mergeP r' (.node g d s l r)) else joinP g d s l (mergeP r (.node g' d' s' l' r')) := by rw [mergeP]
theorem mergeP_ind {P : PT → PT → Prop} (h1 : ∀ b, P .nil b) (h2 : ∀ g d s l r, P (.node g d s l r) .nil)
    (h3 : ∀ g d s l r g' d' s' l' r', (aheadB ⟨d', s', 0⟩ ⟨d, s, 0⟩ = true → P r' (.node g d s l r)) → (aheadB ⟨d', s', 0⟩ ⟨d, s, 0⟩ = false → P r (.node g' d' s' l' r')) → P (.node g d s l r) (.node g' d' s' l' r')) (a b : PT) : P a b := by
  have key : ∀ n, ∀ a b : PT, a.size + b.size ≤ n → P a b := by
    intro n
    induction n with
    | zero =>
      intro a b hn
      cases a with
      | nil => exact h1 b
      | node => simp [PT.size] at hn
    | succ n ih =>
      intro a b hn
      cases a with
      | nil => exact h1 b
      | node g d s l r =>
        cases b with
        | nil => exact h2 g d s l r
        | node g' d' s' l' r' =>
          refine h3 g d s l r g' d' s' l' r' (fun _ => ih _ _ ?_) (fun _ => ih _ _ ?_) <;> (simp only [PT.size] at hn ⊢; omega)
  exact key _ a b (Nat.le_refl _)
theorem mergeP_blocks (a b : PT) : (mergeP a b).blocks.Perm (a.blocks ++ b.blocks) := by
  refine mergeP_ind (P := fun a b => (mergeP a b).blocks.Perm (a.blocks ++ b.blocks)) ?_ ?_ ?_ a b
  · intro b; simp [mergeP_nil_left, PT.blocks]
  · intro g d s l r; simp [mergeP_nil_right, PT.blocks]
  · intro g d s l r g' d' s' l' r' k1 k2
    rw [mergeP_node]
    split
    · rename_i h
      refine (joinP_blocks _ _ _ _ _).trans ?_
      refine (List.Perm.cons _ (List.Perm.append_left _ (k1 h))).trans ?_
      refine List.Perm.trans ?_ (List.perm_append_comm (l₁ := (PT.node g' d' s' l' r').blocks))
      simp [PT.blocks]
    · rename_i h
      refine (joinP_blocks _ _ _ _ _).trans ?_
      refine (List.Perm.cons _ (List.Perm.append_left _ (k2 (by simpa using h)))).trans ?_
      simp [PT.blocks]
theorem mergeP_size (a b : PT) : (mergeP a b).size = a.size + b.size := by
  refine mergeP_ind (P := fun a b => (mergeP a b).size = a.size + b.size) ?_ ?_ ?_ a b
  · intro b; simp [mergeP_nil_left, PT.size]
  · intro g d s l r; simp [mergeP_nil_right, PT.size]
  · intro g d s l r g' d' s' l' r' k1 k2
    rw [mergeP_node]
    split
    · rename_i h
      rw [joinP_size, k1 h]; simp only [PT.size]; omega
    · rename_i h
      rw [joinP_size, k2 (by simpa using h)]; simp only [PT.size]; omega
theorem mergeP_tree (a b : PT) : apart a.tree b.tree → (mergeP a b).tree = mergeT a.tree b.tree := by
  refine mergeP_ind (P := fun a b => apart a.tree b.tree → (mergeP a b).tree = mergeT a.tree b.tree) ?_ ?_ ?_ a b
  · intro b _; simp [mergeP_nil_left, PT.tree, mergeT_nil_left]
  · intro g d s l r _; simp [mergeP_nil_right, PT.tree, mergeT_nil_right]
  · intro g d s l r g' d' s' l' r' k1 k2 hp
    rw [mergeP_node]
    simp only [PT.tree] at hp k1 k2 ⊢
    rw [mergeT_node]
    cases h : aheadB ⟨d', s', 0⟩ ⟨d, s, 0⟩
    · have h' : aheadB ⟨d, s, 0⟩ ⟨d', s', 0⟩ = true := ahead_total (by exact hp.symm.root) h
      rw [if_neg (by simp), if_pos h', joinP_tree, k2 h hp.right]
    · have h' := ahead_asymm h
      rw [if_pos rfl, if_neg (by simp [h']), joinP_tree, k1 h hp.symm.right]

/-! ### Removing an element: the way from it up to the root -/
/-- An element above: its block, its numbers, whether the way comes from its left side, what hangs on the other side. -/
structure Step where
  g : Nat
  d : Int
  s : Int
  left : Bool
  sib : PT
/-- The heap with u at the lower end of the way. -/
def plug : List Step → PT → PT
  | [], u => u
  | f :: c, u => plug c (if f.left then .node f.g f.d f.s u f.sib else .node f.g f.d f.s f.sib u)
/-- The same where both sides are exchanged as their ranks ask. -/
def plugJ : List Step → PT → PT
  | [], u => u
  | f :: c, u => plugJ c (if f.left then joinP f.g f.d f.s u f.sib else joinP f.g f.d f.s f.sib u)
/-- What the lower end has as its parent. -/
def parAt : List Step → Option Addr
  | [] => none
  | f :: _ => some ⟨f.g, 0, none⟩
abbrev parOf (c : List Step) : Value := .pointer (parAt c)
def stepBlocks (f : Step) : List Nat := f.g :: f.sib.blocks
def wayBlocks (c : List Step) : List Nat := c.flatMap stepBlocks
/-- How the way lies in memory; q: what its lowest element has in the place of the lower end. -/
def LayC (w : World) : Value → List Step → Prop
  | _, [] => True
  | q, f :: c => Blk w f.g 61 #[.int .i64 f.d, .int .i64 f.s, parOf c, if f.left then q else f.sib.ptr, if f.left then f.sib.ptr else q] ∧ Lay w (toBlk f.g) f.sib ∧ LayC w (toBlk f.g) c
theorem plug_blocks (c : List Step) : ∀ u : PT, (plug c u).blocks.Perm (u.blocks ++ wayBlocks c) := by
  induction c with
  | nil => intro u; simp [plug, wayBlocks]
  | cons f c ih =>
    intro u
    simp only [plug]
    refine (ih _).trans ?_
    have e : wayBlocks (f :: c) = f.g :: f.sib.blocks ++ wayBlocks c := by simp [wayBlocks, stepBlocks]
    rw [e, ← List.append_assoc]
    refine List.Perm.append_right _ ?_
    split
    · simp only [PT.blocks]
      exact List.perm_middle.symm
    · simp only [PT.blocks]
      refine (List.Perm.cons _ List.perm_append_comm).trans ?_
      exact List.perm_middle.symm
theorem plugJ_blocks (c : List Step) : ∀ u : PT, (plugJ c u).blocks.Perm (u.blocks ++ wayBlocks c) := by
  induction c with
  | nil => intro u; simp [plugJ, wayBlocks]
  | cons f c ih =>
    intro u
    simp only [plugJ]
    refine (ih _).trans ?_
    have e : wayBlocks (f :: c) = f.g :: f.sib.blocks ++ wayBlocks c := by simp [wayBlocks, stepBlocks]
    rw [e, ← List.append_assoc]
    refine List.Perm.append_right _ ?_
    split
    · exact (joinP_blocks _ _ _ _ _).trans List.perm_middle.symm
    · refine (joinP_blocks _ _ _ _ _).trans ((List.Perm.cons _ List.perm_append_comm).trans ?_)
      exact List.perm_middle.symm
theorem plug_size (c : List Step) : ∀ u : PT, (plug c u).size = u.size + (c.map fun f => f.sib.size + 1).sum := by
  induction c with
  | nil => intro u; simp [plug]
  | cons f c ih =>
    intro u
    simp only [plug]
    rw [ih]
    split <;> (simp only [PT.size, List.map_cons, List.sum_cons]; omega)
theorem plugJ_size (c : List Step) : ∀ u : PT, (plugJ c u).size = u.size + (c.map fun f => f.sib.size + 1).sum := by
  induction c with
  | nil => intro u; simp [plugJ]
  | cons f c ih =>
    intro u
    simp only [plugJ]
    rw [ih]
    split <;> (rw [joinP_size]; simp only [List.map_cons, List.sum_cons]; omega)
/-- A heap in memory, taken apart at an element. -/
theorem Lay.way {w : World} : ∀ (c : List Step) (u : PT), Lay w (.pointer none) (plug c u) → Lay w (parOf c) u ∧ LayC w u.ptr c
  | [], u, h => ⟨h, trivial⟩
  | f :: c, u, h => by
    simp only [plug] at h
    obtain ⟨h1, h2⟩ := Lay.way c _ h
    cases hl : f.left
    · rw [hl] at h1 h2
      simp only [Bool.false_eq_true, if_false] at h1 h2
      refine ⟨h1.2.2, ?_⟩
      simp only [LayC, hl, Bool.false_eq_true, if_false]
      exact ⟨h1.1, h1.2.1, h2⟩
    · rw [hl] at h1 h2
      simp only [if_true] at h1 h2
      refine ⟨h1.2.1, ?_⟩
      simp only [LayC, hl, if_true]
      exact ⟨h1.1, h1.2.2, h2⟩
theorem LayC.turned {w w' : World} {S : List Nat} : ∀ {c : List Step} {q : Value}, LayC w q c → Turned S w w' → (∀ g ∈ wayBlocks c, g ∉ S) → LayC w' q c
  | [], _, _, _, _ => trivial
  | f :: c, q, h, k, hs => ⟨h.1.turned k (hs _ (by simp [wayBlocks, stepBlocks])), h.2.1.turned k (fun x hx => hs x (by simp [wayBlocks, stepBlocks, hx])), h.2.2.turned k (fun x hx => hs x (by simp only [wayBlocks, List.flatMap_cons, List.mem_append]; exact .inr hx))⟩

/-- Where an element with this Seq is, in the order in which it is looked for. -/
def findP : PT → Int → List Step → Option (List Step × PT)
  | .nil, _, _ => none
  | .node g d s l r, q, c => if s = q then some (c, .node g d s l r) else
    match findP l q (⟨g, d, s, true, r⟩ :: c) with
    | some x => some x
    | none => findP r q (⟨g, d, s, false, l⟩ :: c)
/-- Where what was found lies. -/
def foundAt : Option (List Step × PT) → Option Addr
  | some x => x.2.adr
  | none => none
theorem findP_plug : ∀ (t : PT) (q : Int) (c : List Step) (x : List Step × PT), findP t q c = some x → plug x.1 x.2 = plug c t ∧ ∃ g d s l r, x.2 = .node g d s l r
  | .nil, q, c, x, h => by simp [findP] at h
  | .node g d s l r, q, c, x, h => by
    simp only [findP] at h
    split at h
    · injection h with h
      subst h
      exact ⟨rfl, g, d, s, l, r, rfl⟩
    · cases hl : findP l q (⟨g, d, s, true, r⟩ :: c) with
      | some y =>
        rw [hl] at h
        injection h with h
        subst h
        exact findP_plug l q _ y hl
      | none =>
        rw [hl] at h
        exact findP_plug r q _ x h
theorem foundAt_none (t : PT) (q : Int) (c : List Step) : foundAt (findP t q c) = none ↔ findP t q c = none := by
  cases h : findP t q c with
  | none => simp [foundAt]
  | some x =>
    obtain ⟨_, g, d, s, l, r, e⟩ := findP_plug t q c x h
    simp [foundAt, e, PT.adr]
/-- What remains of the heap without what was found. -/
def leftOver : List Step × PT → PT
  | (c, .node _ _ _ l r) => plugJ c (mergeP l r)
  | (c, .nil) => plugJ c .nil
/-- The way up does to the rest what removing does. -/
theorem findP_without : ∀ (t : PT) (q : Int) (c : List Step), t.tree.ok = true → uniq t.tree →
    match findP t q c with
    | some x => (withoutT t.tree q).2 = true ∧ ∃ u : PT, leftOver x = plugJ c u ∧ u.tree = (withoutT t.tree q).1
    | none => (withoutT t.tree q).2 = false
  | .nil, q, c, _, _ => by simp [findP, withoutT, PT.tree]
  | .node g d s l r, q, c, ho, hu => by
    obtain ⟨a1, a2, a3, a4, a5⟩ := ok_node ho
    obtain ⟨u1, u2, u3, _, _⟩ := uniq_node hu
    simp only [findP, PT.tree, withoutT]
    by_cases hs : s = q
    · rw [if_pos hs, if_pos hs]
      exact ⟨rfl, mergeP l r, rfl, mergeP_tree l r u3⟩
    · rw [if_neg hs, if_neg hs]
      have il := findP_without l q (⟨g, d, s, true, r⟩ :: c) a4 u1
      have ir := findP_without r q (⟨g, d, s, false, l⟩ :: c) a5 u2
      cases hl : findP l q (⟨g, d, s, true, r⟩ :: c) with
      | some x =>
        rw [hl] at il
        obtain ⟨e1, u, e2, e3⟩ := il
        simp only [e1, if_true]
        exact ⟨trivial, joinP g d s u r, e2, by rw [joinP_tree, e3]⟩
      | none =>
        rw [hl] at il
        simp only at il
        simp only [il, Bool.false_eq_true, if_false]
        cases hr : findP r q (⟨g, d, s, false, l⟩ :: c) with
        | some x =>
          rw [hr] at ir
          obtain ⟨e1, u, e2, e3⟩ := ir
          exact ⟨e1, joinP g d s l u, e2, by rw [joinP_tree, e3]⟩
        | none =>
          rw [hr] at ir
          exact ir
end Go.Proofs.Ytnphjohmkjoefaa
