/- Slices of records of one-cell fields in memory: a slice that reads as a list, a row of the call's own, and what a store or a copy makes of it; no program is named here. -/
import Derived.Test.YtfpnpjpcjbndoaaGr
import Derived.OwnWalk
import Derived.RegionTactic
namespace Go.Proofs.Ytfpnpjpcjbndoaa
open Go.RowKit

/-- How a record lies in memory: k cells. -/
structure Rec (α : Type) where
  k : Nat
  cells : α → List Value
  len : ∀ x, (cells x).length = k
  pos : 0 < k
  one : ∀ x, ∀ u ∈ cells x, u.oneCell' = true

section
variable {α : Type} (R : Rec α)
def Rec.flat (xs : List α) : List Value := xs.flatMap R.cells
theorem Rec.flat_nil : R.flat [] = [] := rfl
theorem Rec.flat_cons (x : α) (xs : List α) : R.flat (x :: xs) = R.cells x ++ R.flat xs := rfl
theorem Rec.flat_len (xs : List α) : (R.flat xs).length = xs.length * R.k := by
  induction xs with
  | nil => simp [Rec.flat]
  | cons x r ih => rw [Rec.flat_cons, List.length_append, ih, R.len, List.length_cons, Nat.succ_mul]; omega
theorem Rec.flat_append (xs ys : List α) : R.flat (xs ++ ys) = R.flat xs ++ R.flat ys := by simp [Rec.flat]
theorem Rec.flat_one (xs : List α) : ∀ u ∈ R.flat xs, u.oneCell' = true := by
  intro u hu
  simp only [Rec.flat, List.mem_flatMap] at hu
  obtain ⟨x, _, hx⟩ := hu
  exact R.one x u hx
theorem Rec.flat_at (xs : List α) (i : Nat) (hi : i < xs.length) (j : Nat) (hj : j < R.k) : (R.flat xs)[i * R.k + j]? = (R.cells xs[i])[j]? := by
  induction xs generalizing i with
  | nil => simp at hi
  | cons x r ih =>
    rw [Rec.flat_cons]
    cases i with
    | zero => rw [Nat.zero_mul, Nat.zero_add, List.getElem?_append_left (by rw [R.len]; exact hj)]; rfl
    | succ i =>
      have e : (i + 1) * R.k + j = R.k + (i * R.k + j) := by rw [Nat.succ_mul]; omega
      rw [e, List.getElem?_append_right (by rw [R.len]; omega), R.len, Nat.add_sub_cancel_left, ih i (by simpa using hi)]
      rfl
theorem Rec.flat_drop (xs : List α) (i : Nat) : R.flat (xs.drop i) = (R.flat xs).drop (i * R.k) := by
  induction xs generalizing i with
  | nil => simp [Rec.flat]
  | cons x r ih =>
    cases i with
    | zero => simp
    | succ i =>
      have e : (i + 1) * R.k = (R.cells x).length + i * R.k := by rw [R.len, Nat.succ_mul]; omega
      rw [List.drop_succ_cons, ih, Rec.flat_cons, e, ← List.drop_drop, List.drop_left]
theorem Rec.flat_take (xs : List α) (i : Nat) : R.flat (xs.take i) = (R.flat xs).take (i * R.k) := by
  induction xs generalizing i with
  | nil => simp [Rec.flat]
  | cons x r ih =>
    cases i with
    | zero => simp [Rec.flat]
    | succ i =>
      have e : (i + 1) * R.k = (R.cells x).length + i * R.k := by rw [R.len, Nat.succ_mul]; omega
      rw [List.take_succ_cons, Rec.flat_cons, ih, Rec.flat_cons, e, List.take_length_add_append]

/-- A list with the part from i on overwritten. -/
def putAt (l : List Value) (i : Nat) (us : List Value) : List Value := l.take i ++ us ++ l.drop (i + us.length)
theorem putAt_nil (l : List Value) (i : Nat) : putAt l i [] = l := by simp [putAt]
theorem putAt_cons (l : List Value) (i : Nat) (u : Value) (us : List Value) (h : i < l.length) : putAt (l.set i u) (i + 1) us = putAt l i (u :: us) := by
  unfold putAt
  have e1 : (l.set i u).take (i + 1) = l.take i ++ [u] := by
    rw [List.take_succ_eq_append_getElem (by simpa using h), List.take_set_of_le (Nat.le_refl _)]; simp
  have e2 : (l.set i u).drop (i + 1 + us.length) = l.drop (i + (u :: us).length) := by
    rw [List.drop_set_of_lt (by omega)]; simp only [List.length_cons]; congr 1; omega
  rw [e1, e2]; simp
theorem Rec.flat_set (xs : List α) (i : Nat) (x : α) (hi : i < xs.length) : putAt (R.flat xs) (i * R.k) (R.cells x) = R.flat (xs.set i x) := by
  unfold putAt
  have e : i * R.k + (R.cells x).length = (i + 1) * R.k := by rw [R.len, Nat.succ_mul]
  rw [e, ← R.flat_take, ← R.flat_drop, List.set_eq_take_append_cons_drop, if_pos hi, R.flat_append, R.flat_cons, List.append_assoc]
theorem Rec.flat_replicate (x : α) (n : Nat) : R.flat (List.replicate (n + 1) x) = R.cells x ++ R.flat (List.replicate n x) := rfl
theorem Rec.made (x : α) (n : Nat) : (madeCells (R.cells x).toArray (n * R.k)).toList = R.flat (List.replicate n x) := by
  apply List.ext_getElem?
  intro j
  have hk := R.pos
  by_cases hj : j < n * R.k
  · have h1 : j / R.k < n := by rw [Nat.div_lt_iff_lt_mul hk]; exact hj
    have h2 : j % R.k < R.k := Nat.mod_lt _ hk
    have e : j = j / R.k * R.k + j % R.k := by rw [Nat.mul_comm]; exact (Nat.div_add_mod j R.k).symm
    have hf := R.flat_at (List.replicate n x) (j / R.k) (by simpa using h1) (j % R.k) h2
    rw [← e] at hf
    rw [hf]
    have hl := R.len x
    simp [madeCells, hj, hl]
    rw [List.getElem?_eq_getElem (by omega)]
    have hlt : j % R.k < (R.cells x).length := by omega
    simp
  · have e1 : (R.flat (List.replicate n x))[j]? = none := List.getElem?_eq_none (by rw [R.flat_len]; simp; omega)
    rw [e1]
    simp [madeCells, hj]
end

/-- A slice that reads as xs, its cells below block B. -/
def RdR {α : Type} (R : Rec α) (w : World) (B : Nat) (A : Option Addr) (xs : List α) : Prop :=
  xs.length ≤ maxLen ∧ (0 < xs.length → ∃ ad, A = some ad ∧ ad.block < B ∧ ∀ j u, (R.flat xs)[j]? = some u → w.cell? (ad.add j) = some u)
section
variable {α : Type} {R : Rec α} {w w' : World} {B B' lo hi : Nat} {A : Option Addr} {xs : List α}
theorem RdR.at_ {k : Nat} (h : RdR R w B A xs) (hk : k < xs.length) :
    ∃ ad, A = some ad ∧ ad.block < B ∧ ∀ j u, (R.cells xs[k])[j]? = some u → w.cell? (ad.add (k * R.k + j)) = some u := by
  obtain ⟨ad, e, hb, hc⟩ := h.2 (by omega)
  refine ⟨ad, e, hb, fun j u hu => hc _ _ ?_⟩
  have hj : j < R.k := by
    have := (List.getElem?_eq_some_iff.1 hu).1
    rwa [R.len] at this
  rw [R.flat_at xs k hk j hj, hu]
theorem RdR.below (h : RdR R w B A xs) (hb : Below B w w') : RdR R w' B A xs :=
  ⟨h.1, fun hn => by
    obtain ⟨ad, e, hB, hc⟩ := h.2 hn
    exact ⟨ad, e, hB, fun j x hx => (hb.cell (by unfold Addr.add; split <;> exact hB)).trans (hc j x hx)⟩⟩
theorem RdR.kept (h : RdR R w B A xs) (hB : B ≤ w.heap.size) (hk : Kept lo hi w w') (hr : hi ≤ lo ∨ B ≤ lo) : RdR R w' B A xs := h.below (hk.below hB hr)
theorem RdR.wide (h : RdR R w B A xs) (hB : B ≤ B') : RdR R w B' A xs :=
  ⟨h.1, fun hn => by obtain ⟨ad, e, hb, hc⟩ := h.2 hn; exact ⟨ad, e, by omega, hc⟩⟩
theorem RdR.up (h : RdR R w w.heap.size A xs) (hk : Kept 0 0 w w') : RdR R w' w'.heap.size A xs :=
  (h.kept (Nat.le_refl _) hk (.inl (Nat.le_refl _))).wide hk.size
theorem RdR.nil (w : World) (B : Nat) (A : Option Addr) : RdR R w B A [] := ⟨by simp, by simp⟩
end

/-- A row of the call's own of elements of some cells each, in the blocks lo .. hi-1 (or nil). -/
def OwnZ (w : World) (lo hi : Nat) (e : TypeId) (size : Nat) (A : Option Addr) (n c : Nat) (xs : List Value) : Prop := w.ownsRow lo e size (.slice A n c) n xs ∧ ∀ ad, A = some ad → ad.block < hi
section
variable {w w' : World} {lo hi size n c lo' hi' : Nat} {e : TypeId} {A : Option Addr} {xs : List Value}
theorem OwnZ.form (h : OwnZ w lo hi e size A n c xs) : (A = none ∧ n = 0 ∧ c = 0) ∨ ∃ g, A = some ⟨g, 0, none⟩ ∧ lo ≤ g ∧ g < hi ∧ g < w.heap.size := by
  rcases h.1.2 with ⟨hv, hn⟩ | ⟨g, cap, cur, hv, hb, hg, _⟩
  · injection hv with h1 h2 h3
    exact .inl ⟨h1, h2, h3⟩
  · injection hv with h1 h2 h3
    exact .inr ⟨g, h1, hb, h.2 _ h1, (Array.getElem?_eq_some_iff.1 hg).1⟩
theorem OwnZ.kept (h : OwnZ w lo hi e size A n c xs) (hk : Kept lo' hi' w w') (hr : hi' ≤ lo' ∨ hi ≤ lo' ∨ hi' ≤ lo) : OwnZ w' lo hi e size A n c xs := by
  refine ⟨⟨h.1.1, ?_⟩, h.2⟩
  rcases h.1.2 with hn | ⟨g, cap, cur, hv, hb, hg, rest⟩
  · exact .inl hn
  · refine .inr ⟨g, cap, cur, hv, hb, ?_, rest⟩
    have := h.2 ⟨g, 0, none⟩ (by injection hv)
    rw [hk.block g (Array.getElem?_eq_some_iff.1 hg).1 (by simp at this; omega)]
    exact hg
theorem OwnZ.wide (h : OwnZ w lo hi e size A n c xs) (hl : lo' ≤ lo) (hh : hi ≤ hi') : OwnZ w lo' hi' e size A n c xs :=
  ⟨ownsRow_lo h.1 hl, fun ad e => Nat.lt_of_lt_of_le (h.2 ad e) hh⟩
theorem OwnZ.range (h : OwnZ w lo hi e size A n c xs) : aHi A ≤ aLo A ∨ (lo ≤ aLo A ∧ aHi A ≤ hi) := by
  rcases h.form with ⟨rfl, _, _⟩ | ⟨g, rfl, h1, h2, _⟩
  · exact .inl (Nat.le_refl _)
  · exact .inr ⟨h1, h2⟩
theorem OwnZ.cap (h : OwnZ w lo hi e size A n c xs) : n ≤ c ∧ c ≤ maxLen := by
  rcases h.1.2 with ⟨hv, hn⟩ | ⟨g, cap, cur, hv, hb, hg, h1, h2, _⟩
  · injection hv with _ h2 h3
    subst h2 h3
    exact ⟨Nat.le_refl _, Nat.zero_le _⟩
  · injection hv with _ _ h3
    subst h3
    exact ⟨h1, h2⟩
theorem OwnZ.mk_ {g : Nat} (h : w.ownsRow lo e size (.slice (some ⟨g, 0, none⟩) n c) n xs) (hg : g < hi) : OwnZ w lo hi e size (some ⟨g, 0, none⟩) n c xs :=
  ⟨h, fun ad e => by injection e with e; subst e; exact hg⟩
end
theorem OwnZ.rd {α : Type} {R : Rec α} {w : World} {lo hi e n c : Nat} {A : Option Addr} {xs : List α} (h : OwnZ w lo hi e R.k A n c (R.flat xs)) : xs.length = n ∧ RdR R w hi A xs := by
  have hl : xs.length = n := by
    have := h.1.1
    rw [R.flat_len] at this
    exact Nat.eq_of_mul_eq_mul_right R.pos this
  refine ⟨hl, by have := h.cap; omega, fun hn => ?_⟩
  rcases h.form with ⟨_, h0, _⟩ | ⟨g, rfl, _, hg, _⟩
  · omega
  · exact ⟨_, rfl, hg, fun j u hu => h.1.cells (g := g) rfl j u hu⟩
/-- What is known of cell j of element i of a row of the call's own. -/
theorem own_at {α : Type} {R : Rec α} {w : World} {base e n c g : Nat} {xs : List α} (h : w.ownsRow base e R.k (.slice (some ⟨g, 0, none⟩) n c) n (R.flat xs)) {i : Nat} (hi : i < xs.length) (j : Nat) {u : Value} (hu : (R.cells xs[i])[j]? = some u) : w.cell? ⟨g, i * R.k + j, none⟩ = some u := by
  have hj : j < R.k := by
    have := (List.getElem?_eq_some_iff.1 hu).1
    rwa [R.len] at this
  have hl := h.1
  rw [R.flat_len] at hl
  have hb : i * R.k + j < xs.length * R.k := by
    have : (i + 1) * R.k ≤ xs.length * R.k := Nat.mul_le_mul_right _ hi
    rw [Nat.succ_mul] at this; omega
  rw [h.cellAt _ (by omega), R.flat_at xs i hi j hj, hu]
theorem add_add_ (a : Addr) (i j : Nat) : (a.add i).add j = a.add (i + j) := by
  unfold Addr.add
  by_cases hi : i = 0 <;> by_cases hj : j = 0 <;> simp [hi, hj, Nat.add_assoc]
/-- A part of a slice: from i on, m elements. -/
theorem RdR.part {α : Type} {R : Rec α} {w : World} {B i m : Nat} {ad : Addr} {xs : List α} (h : RdR R w B (some ad) xs) (hm : i + m ≤ xs.length) : RdR R w B (some (ad.add (i * R.k))) ((xs.drop i).take m) := by
  refine ⟨by have := h.1; simp; omega, fun hn => ?_⟩
  simp at hn
  obtain ⟨ad', e, hb, hc⟩ := h.2 (by omega)
  injection e with e
  subst e
  refine ⟨_, rfl, by unfold Addr.add; split <;> exact hb, fun j u hu => ?_⟩
  rw [add_add_]
  refine hc _ _ ?_
  rw [R.flat_take, R.flat_drop] at hu
  have hj := (List.getElem?_eq_some_iff.1 hu).1
  rw [List.getElem?_take_of_lt (by simp at hj; omega), List.getElem?_drop] at hu
  exact hu

/-- What is asked of a slice type: elements of k cells and so many bytes. -/
def SliceOf (P : Program) (t e : TypeId) (k bytes : Nat) : Prop :=
  P.underlying t = some (.slice e) ∧ ∃ (i : TypeInfo) (z : Value), P.info? e = some i ∧ i.zero = some z ∧ i.size = k ∧ i.bytes = bytes ∧ z.cells.size = k
theorem SliceOf.of {P : Program} {t e : TypeId} {k bytes : Nat} {z : Value} (ht : P.underlying t = some (.slice e)) (h : (P.info? e).map (fun i => (i.zero, i.size, i.bytes)) = some (some z, k, bytes)) (hz : z.cells.size = k) : SliceOf P t e k bytes := by
  obtain ⟨i, h1, h2, h3, h4⟩ := info_parts h
  exact ⟨ht, i, z, h1, h2, h3, h4, hz⟩

/-- The block of a row. -/
def rowAt (A : Option Addr) : Option Nat := A.map (·.block)
theorem rowAt_eq (A : Option Addr) (n c : Nat) : (Value.slice A n c).ownBlock = rowAt A := by cases A <;> rfl

section
variable {P : Program} {α : Type} {R : Rec α}
/-- append onto a row of the call's own, whatever the source: nil, empty or not. -/
theorem run_app (w : World) {t e : TypeId} {bytes : Nat} (ty : TypeId) (hS : SliceOf P t e R.k bytes) (base : Nat) (D0 : Option Addr) (d0 : Nat) (xs ys : List α) (hown : w.ownsRow base e R.k (.slice D0 xs.length d0) xs.length (R.flat xs))
    (B : Nat) (A : Option Addr) (c : Nat) (hr : RdR R w B A ys) (h63 : xs.length + ys.length ≤ maxLen) (hb : (xs.length + ys.length) * bytes ≤ 140737488355328) (hbase : base ≤ w.heap.size) :
    ∃ (D : Option Addr) (d : Nat) (w' : World), (Builtin.append_ #[t, t] ty #[.slice D0 xs.length d0, .slice A ys.length c]).run P w = .ok (.slice D (xs ++ ys).length d) w' ∧
      w'.ownsRow base e R.k (.slice D (xs ++ ys).length d) (xs ++ ys).length (R.flat (xs ++ ys)) ∧ w.grownBy w' (rowAt D0) ∧ (rowAt D = rowAt D0 ∨ rowAt D = some w.heap.size) := by
  obtain ⟨ht, i, z, hi, hz, hk, hby, hzc⟩ := hS
  cases A with
  | none =>
    have hy : ys = [] := by
      cases ys with
      | nil => rfl
      | cons y r =>
        obtain ⟨ad, h, _⟩ := hr.2 (by simp)
        cases h
    subst hy
    refine ⟨D0, d0, w, ?_, by rw [List.append_nil]; exact hown, World.grownBy.refl w _, .inl rfl⟩
    rcases hown.2 with ⟨hv, _⟩ | ⟨g, cap, cur, hv, _, _, hcap, _⟩
    · injection hv with e1 e2 e3
      subst e1 e3
      simp [Builtin.append_, run_underlying ht, sizeOf, typeInfo, hi, Builtin.lenOf, Builtin.firstCells, e2]
    · injection hv with e1 e2 e3
      subst e1 e3
      simp [Builtin.append_, run_underlying ht, sizeOf, typeInfo, hi, Builtin.lenOf, Builtin.firstCells, hcap, storeCells]
  | some ad =>
    have hc : ∀ j u, (R.flat ys)[j]? = some u → w.cell? (ad.add j) = some u := by
      cases ys with
      | nil => intro j u hu; simp [Rec.flat] at hu
      | cons y r =>
        obtain ⟨ad', h, _, hc⟩ := hr.2 (by simp)
        injection h with h
        subst h
        exact hc
    obtain ⟨v', w', h1, h2, h3, _, h5⟩ := run_append_own_at (P := P) w base t ty e i z R.k bytes ht hi hz hk hby hzc R.pos (.slice D0 xs.length d0) xs.length (R.flat xs) hown ad ys.length c (R.flat ys) (R.flat_len ys) hc (R.flat_one ys) h63 hb hbase
    rw [← List.length_append, ← R.flat_append] at h2
    rw [rowAt_eq] at h3 h5
    rcases h2.2 with ⟨hv, h0⟩ | ⟨g, cap, cur, hv, _⟩
    · rw [hv] at h1 h2 h5
      rw [rowAt_eq] at h5
      refine ⟨none, 0, w', by rw [h0]; exact h1, by rw [h0] at h2 ⊢; exact h2, h3, h5⟩
    · rw [hv] at h1 h2 h5
      rw [rowAt_eq] at h5
      exact ⟨_, _, w', h1, h2, h3, h5⟩
theorem wp_app {w : World} {o : Oper} {a : Act} {K : Act → World → Prop} {Q : Exit → Act → World → Prop} {t e : TypeId} {bytes : Nat} (s x : Operand) (ho : o.op = .call { callee := .builtin .append, args := #[s, x], argTypes := #[t, t] })
    (hS : SliceOf P t e R.k bytes) (base : Nat) (D0 : Option Addr) (d0 : Nat) (xs : List α) (hs : a.eval s = .slice D0 xs.length d0) (hown : w.ownsRow base e R.k (.slice D0 xs.length d0) xs.length (R.flat xs))
    (B : Nat) (A : Option Addr) (c : Nat) (ys : List α) (hx : a.eval x = .slice A ys.length c) (hr : RdR R w B A ys) (h63 : xs.length + ys.length ≤ maxLen) (hb : (xs.length + ys.length) * bytes ≤ 140737488355328) (hbase : base ≤ w.heap.size)
    (h : ∀ (D : Option Addr) (d : Nat) (w' : World), w'.ownsRow base e R.k (.slice D (xs ++ ys).length d) (xs ++ ys).length (R.flat (xs ++ ys)) → w.grownBy w' (rowAt D0) → (rowAt D = rowAt D0 ∨ rowAt D = some w.heap.size) → K (a.put o.dst (.slice D (xs ++ ys).length d)) w') : o.wp P a w K Q := by
  obtain ⟨D, d, w', h1, h2, h3, h4⟩ := run_app (P := P) w o.type hS base D0 d0 xs ys hown B A c hr h63 hb hbase
  unfold Oper.wp execOp
  simp only [ho, resolve, invoke, builtin, Sem.run_bind, Sem.run_pure, Result.andThen_ok, List.map_toArray, List.map_cons, List.map_nil, hs, hx, h1]
  exact h D d w' h2 h3 h4
theorem wpList_app {w : World} {ops : Array Oper} {rest : List Oper} {o : Oper} {a : Act} {Q : Exit → Act → World → Prop} (hgd : o.guard = none) {t e : TypeId} {bytes : Nat} (s x : Operand) (ho : o.op = .call { callee := .builtin .append, args := #[s, x], argTypes := #[t, t] })
    (hS : SliceOf P t e R.k bytes) (base : Nat) (D0 : Option Addr) (d0 : Nat) (xs : List α) (hs : a.eval s = .slice D0 xs.length d0) (hown : w.ownsRow base e R.k (.slice D0 xs.length d0) xs.length (R.flat xs))
    (B : Nat) (A : Option Addr) (c : Nat) (ys : List α) (hx : a.eval x = .slice A ys.length c) (hr : RdR R w B A ys) (h63 : xs.length + ys.length ≤ maxLen) (hb : (xs.length + ys.length) * bytes ≤ 140737488355328) (hbase : base ≤ w.heap.size)
    (h : ∀ (D : Option Addr) (d : Nat) (w' : World), w'.ownsRow base e R.k (.slice D (xs ++ ys).length d) (xs ++ ys).length (R.flat (xs ++ ys)) → w.grownBy w' (rowAt D0) → (rowAt D = rowAt D0 ∨ rowAt D = some w.heap.size) → wpList P ops Q rest (a.put o.dst (.slice D (xs ++ ys).length d)) w') : wpList P ops Q (o :: rest) a w :=
  wpList_plain hgd fun _ hK => wp_app s x ho hS base D0 d0 xs hs hown B A c ys hx hr h63 hb hbase fun D d w' h2 h3 h4 => hK _ _ (h D d w' h2 h3 h4)
/-- The same where the append is guarded ('a && f(append(..))'). -/
theorem wpList_appG {w : World} {ops : Array Oper} {rest : List Oper} {o : Oper} {a : Act} {Q : Exit → Act → World → Prop} (hw : Region.wanted o (yielded ops a.tmps) = true) {t e : TypeId} {bytes : Nat} (s x : Operand) (ho : o.op = .call { callee := .builtin .append, args := #[s, x], argTypes := #[t, t] })
    (hS : SliceOf P t e R.k bytes) (base : Nat) (D0 : Option Addr) (d0 : Nat) (xs : List α) (hs : a.eval s = .slice D0 xs.length d0) (hown : w.ownsRow base e R.k (.slice D0 xs.length d0) xs.length (R.flat xs))
    (B : Nat) (A : Option Addr) (c : Nat) (ys : List α) (hx : a.eval x = .slice A ys.length c) (hr : RdR R w B A ys) (h63 : xs.length + ys.length ≤ maxLen) (hb : (xs.length + ys.length) * bytes ≤ 140737488355328) (hbase : base ≤ w.heap.size)
    (h : ∀ (D : Option Addr) (d : Nat) (w' : World), w'.ownsRow base e R.k (.slice D (xs ++ ys).length d) (xs ++ ys).length (R.flat (xs ++ ys)) → w.grownBy w' (rowAt D0) → (rowAt D = rowAt D0 ∨ rowAt D = some w.heap.size) → wpList P ops Q rest (a.put o.dst (.slice D (xs ++ ys).length d)) w') : wpList P ops Q (o :: rest) a w :=
  wpList_step fun _ hK => by rw [if_pos hw]; exact wp_app s x ho hS base D0 d0 xs hs hown B A c ys hx hr h63 hb hbase fun D d w' h2 h3 h4 => hK _ _ (h D d w' h2 h3 h4)
theorem step_app {w : World} {ops : Array Oper} {o : Oper} {a : Act} {K : Act → World → Prop} {Q : Exit → Act → World → Prop} {E : Prop} (hgd : o.guard = none) {t e : TypeId} {bytes : Nat} (s x : Operand) (ho : o.op = .call { callee := .builtin .append, args := #[s, x], argTypes := #[t, t] })
    (hS : SliceOf P t e R.k bytes) (base : Nat) (D0 : Option Addr) (d0 : Nat) (xs : List α) (hs : a.eval s = .slice D0 xs.length d0) (hown : w.ownsRow base e R.k (.slice D0 xs.length d0) xs.length (R.flat xs))
    (B : Nat) (A : Option Addr) (c : Nat) (ys : List α) (hx : a.eval x = .slice A ys.length c) (hr : RdR R w B A ys) (h63 : xs.length + ys.length ≤ maxLen) (hb : (xs.length + ys.length) * bytes ≤ 140737488355328) (hbase : base ≤ w.heap.size)
    (h : ∀ (D : Option Addr) (d : Nat) (w' : World), w'.ownsRow base e R.k (.slice D (xs ++ ys).length d) (xs ++ ys).length (R.flat (xs ++ ys)) → w.grownBy w' (rowAt D0) → (rowAt D = rowAt D0 ∨ rowAt D = some w.heap.size) → K (a.put o.dst (.slice D (xs ++ ys).length d)) w') :
    if Region.wanted o (yielded ops a.tmps) = true then Oper.wp P o a w K Q else E := by
  rw [if_pos (by simp [Region.wanted, hgd])]
  exact wp_app s x ho hS base D0 d0 xs hs hown B A c ys hx hr h63 hb hbase h
end
/-- What an append onto an own row keeps, where that row is new. -/
theorem Kept.app {W w w' : World} {D : Option Addr} (hk : Kept 0 0 W w) (hg : w.grownBy w' (rowAt D)) (hD : ∀ g, rowAt D = some g → W.heap.size ≤ g) : Kept 0 0 W w' := by
  cases D with
  | none => exact hk.trans (Kept.of_grown hg (by intro k hk; cases hk))
  | some ad => exact hk.trans2 (Kept.of_grown (lo := ad.block) (hi := ad.block + 1) hg (by intro k hk; injection hk with hk; subst hk; exact ⟨Nat.le_refl _, Nat.lt_succ_self _⟩)) (.inr (hD _ rfl))
theorem own_row_lo {w : World} {base e k n c : Nat} {D : Option Addr} {xs : List Value} (h : w.ownsRow base e k (.slice D n c) n xs) : ∀ g, rowAt D = some g → base ≤ g ∧ g < w.heap.size := by
  intro g hg
  exact h.lt g (by rw [rowAt_eq]; exact hg)
theorem OwnZ.of_row {w : World} {base e k n c : Nat} {D : Option Addr} {xs : List Value} (h : w.ownsRow base e k (.slice D n c) n xs) : OwnZ w base w.heap.size e k D n c xs :=
  ⟨h, fun ad he => (own_row_lo h ad.block (by rw [he]; rfl)).2⟩
/-- Field j of an element, as the walk spells it. -/
theorem fieldAt_eq (ad : Addr) (n j : Nat) (hj : 0 < j) : ad.add (n + j) = ⟨(ad.add n).block, (ad.add n).off + j, none⟩ := by
  rw [← add_add_]
  show (ad.add n).add j = _
  generalize ad.add n = a
  unfold Addr.add
  rw [if_neg (by omega)]
/-- What is left of a budget behind n elements; -1 once it is spent. -/
def szF (left : Int) (n : Nat) : Int := if left - n < 0 then -1 else left - n
theorem szF_neg {left : Int} {n : Nat} (h : left - n < 0) : szF left n = -1 := by rw [szF, if_pos h]
theorem szF_pos {left : Int} {n : Nat} (h : ¬ left - n < 0) : szF left n = left - n := by rw [szF, if_neg h]
/-- A slice that reads as xs, with its capacity. -/
structure SL {α : Type} (R : Rec α) (w : World) (B : Nat) (A : Option Addr) (c : Nat) (xs : List α) : Prop where
  rd : RdR R w B A xs
  cap : xs.length ≤ c
  max : c ≤ maxLen
section
variable {α : Type} {R : Rec α} {w w' : World} {B B' lo hi c : Nat} {A : Option Addr} {xs : List α}
theorem SL.kept (h : SL R w B A c xs) (hB : B ≤ w.heap.size) (hk : Kept lo hi w w') (hr : hi ≤ lo ∨ B ≤ lo) : SL R w' B A c xs := ⟨h.rd.kept hB hk hr, h.cap, h.max⟩
theorem SL.wide (h : SL R w B A c xs) (hB : B ≤ B') : SL R w B' A c xs := ⟨h.rd.wide hB, h.cap, h.max⟩
theorem SL.up (h : SL R w w.heap.size A c xs) (hk : Kept 0 0 w w') : SL R w' w'.heap.size A c xs := ⟨h.rd.up hk, h.cap, h.max⟩
theorem OwnZ.sl {e n : Nat} (h : OwnZ w lo hi e R.k A n c (R.flat xs)) : xs.length = n ∧ SL R w hi A c xs := by
  obtain ⟨h1, h2⟩ := h.rd
  exact ⟨h1, h2, by have := h.cap; omega, h.cap.2⟩
end

theorem SL.part {α : Type} {R : Rec α} {w : World} {B i m c c' : Nat} {ad : Addr} {xs : List α} (h : SL R w B (some ad) c xs) (hm : i + m ≤ xs.length) (hc : m ≤ c') (hx : c' ≤ maxLen) : SL R w B (some (ad.add (i * R.k))) c' ((xs.drop i).take m) :=
  ⟨h.rd.part hm, by simp; omega, hx⟩
theorem SL.none {α : Type} {R : Rec α} (w : World) (B c : Nat) (A : Option Addr) (hx : c ≤ maxLen) : SL R w B A c [] := ⟨RdR.nil _ _ _, Nat.zero_le _, hx⟩

end Go.Proofs.Ytfpnpjpcjbndoaa
