/- Slices of int64: how they lie in memory, and the helper functions of the laws over them (compare, mark, check marks); no condition beyond what each theorem states. -/
import Derived.Test.YtgphakpcenlplaaRc
namespace Go.Proofs.Ytgphakpcenlplaa
open Go.RowKit Go.Sort

/-- How an int64 lies in memory. -/
def iR : Rec Int := ⟨1, fun x => [.int .i64 x], fun _ => rfl, by decide, fun x u hu => by
  simp only [List.mem_cons, List.not_mem_nil, or_false] at hu
  rcases hu with rfl; rfl⟩
theorem iR_k : iR.k = 1 := rfl
theorem Try.infoI : (Try.prog.info? 2).map (fun i => (i.zero, i.size, i.bytes)) = some (some (.int .i64 0), 1, 8) := by kernel_rfl
theorem iSlice : SliceOf Try.prog 31 2 iR.k 8 := SliceOf.of Try.underlying31 Try.infoI rfl
/-- What the walk wants to know of element k. -/
theorem RdR.i {w : World} {B : Nat} {A : Option Addr} {xs : List Int} {k : Nat} (h : RdR iR w B A xs) (hk : k < xs.length) :
    ∃ ad, A = some ad ∧ ad.block < B ∧ w.cell? (ad.add k) = some (.int .i64 xs[k]) := by
  obtain ⟨ad, e, hb, hc⟩ := h.at_ hk
  refine ⟨ad, e, hb, ?_⟩
  have := hc 0 _ rfl
  rwa [iR_k, Nat.mul_one, Nat.add_zero] at this
theorem iR_flat (xs : List Int) : iR.flat xs = xs.map (Value.int .i64) := by
  induction xs with
  | nil => rfl
  | cons x r ih => rw [Rec.flat_cons, ih]; rfl

/-- What the marks write: k, k+1, .. -/
def marksI (k : Int) (n : Nat) : List Int := (List.range n).map fun i : Nat => k + (i : Int)
theorem marksI_len (k : Int) (n : Nat) : (marksI k n).length = n := by simp [marksI]
theorem marksI_at (k : Int) (n i : Nat) (h : i < (marksI k n).length) : (marksI k n)[i] = k + (i : Int) := by simp [marksI]

/-- The first j numbers of a row marked. -/
def iMarked (k : Int) (ys : List Int) (j : Nat) : List Int := marksI k j ++ ys.drop j
theorem iMarked_zero (k : Int) (ys : List Int) : iMarked k ys 0 = ys := by simp [iMarked, marksI]
theorem iMarked_len (k : Int) (ys : List Int) (j : Nat) (h : j ≤ ys.length) : (iMarked k ys j).length = ys.length := by simp [iMarked, marksI_len]; omega
theorem iMarked_all (k : Int) (ys : List Int) : iMarked k ys ys.length = marksI k ys.length := by simp [iMarked]
theorem iMarked_at (k : Int) (ys : List Int) (j : Nat) (h : j < ys.length) : (iMarked k ys j)[j]'(by rw [iMarked_len k ys j (Nat.le_of_lt h)]; exact h) = ys[j] := by
  unfold iMarked
  rw [List.getElem_append_right (by rw [marksI_len]; exact Nat.le_refl _)]
  simp [marksI_len]
theorem iMarked_succ (k : Int) (ys : List Int) (j : Nat) (h : j < ys.length) : (iMarked k ys j).set j (k + (j : Int)) = iMarked k ys (j + 1) := by
  unfold iMarked
  rw [List.set_append_right _ _ (by rw [marksI_len]; exact Nat.le_refl _), marksI_len, Nat.sub_self, List.drop_eq_getElem_cons h, List.set_cons_zero]
  simp [marksI, List.range_succ]
theorem own_putI {w : World} {base e n c g : Nat} {xs : List Int} (h : w.ownsRow base e 1 (.slice (some ⟨g, 0, none⟩) n c) n (iR.flat xs)) (i : Nat) (x : Int) :
    (w.setCell ⟨g, i, none⟩ (.int .i64 x)).ownsRow base e 1 (.slice (some ⟨g, 0, none⟩) n c) n (iR.flat (xs.set i x)) := by
  have h1 := (h.stored i (.int .i64 x)).1
  rw [iR_flat] at h1 ⊢
  rwa [List.map_set]

/-- A slice value that reads as xs. -/
def RdI (w : World) (B : Nat) (v : Value) (xs : List Int) : Prop := ∃ A c, v = .slice A xs.length c ∧ SL iR w B A c xs
/-- A slice value of the call's own. -/
def OwnI (w : World) (lo hi : Nat) (v : Value) (xs : List Int) : Prop := ∃ D d, v = .slice D xs.length d ∧ OwnZ w lo hi 2 1 D xs.length d (iR.flat xs)
section
variable {w w' : World} {B B' lo hi lo' hi' : Nat} {v : Value} {xs : List Int}
theorem RdI.kept (h : RdI w B v xs) (hB : B ≤ w.heap.size) (hk : Kept lo hi w w') (hr : hi ≤ lo ∨ B ≤ lo) : RdI w' B v xs := by
  obtain ⟨A, c, e, h⟩ := h; exact ⟨A, c, e, h.kept hB hk hr⟩
theorem RdI.wide (h : RdI w B v xs) (hB : B ≤ B') : RdI w B' v xs := by
  obtain ⟨A, c, e, h⟩ := h; exact ⟨A, c, e, h.wide hB⟩
theorem RdI.up (h : RdI w w.heap.size v xs) (hk : Kept 0 0 w w') : RdI w' w'.heap.size v xs := (h.kept (Nat.le_refl _) hk (.inl (Nat.le_refl _))).wide hk.size
theorem RdI.len (h : RdI w B v xs) : xs.length ≤ maxLen := by obtain ⟨A, c, e, h⟩ := h; exact h.rd.1
theorem OwnI.kept (h : OwnI w lo hi v xs) (hk : Kept lo' hi' w w') (hr : hi' ≤ lo' ∨ hi ≤ lo' ∨ hi' ≤ lo) : OwnI w' lo hi v xs := by
  obtain ⟨A, c, e, h⟩ := h; exact ⟨A, c, e, h.kept hk hr⟩
theorem OwnI.wide (h : OwnI w lo hi v xs) (hl : lo' ≤ lo) (hh : hi ≤ hi') : OwnI w lo' hi' v xs := by
  obtain ⟨A, c, e, h⟩ := h; exact ⟨A, c, e, h.wide hl hh⟩
theorem OwnI.rd (h : OwnI w lo hi v xs) : RdI w hi v xs := by
  obtain ⟨D, d, e, h⟩ := h; exact ⟨D, d, e, (OwnZ.sl (R := iR) h).2⟩
theorem OwnI.rdW (h : OwnI w lo hi v xs) (hh : hi ≤ w.heap.size) : RdI w w.heap.size v xs := h.rd.wide hh
theorem OwnI.nil (w : World) (lo hi : Nat) : OwnI w lo hi (.slice none 0 0) [] := ⟨none, 0, rfl, ⟨⟨rfl, .inl ⟨rfl, rfl⟩⟩, by intro ad h; cases h⟩⟩
end
end Go.Proofs.Ytgphakpcenlplaa
