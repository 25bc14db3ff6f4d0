/- Slices of heap elements: the helper functions of the laws over them (size, copy, compare, mark, check marks); no condition beyond what each theorem states. -/
import Derived.Test.YtnphjohmkjoefaaRc
import Derived.Test.YtnphjohmkjoefaaHp
namespace Go.Proofs.Ytnphjohmkjoefaa
open Go.RowKit Go.Sort

/-- How an element lies in memory. -/
def twR : Rec Tw := ⟨3, fun x => [.int .i64 x.due, .int .i64 x.seq, .int .i64 x.lefts], fun _ => rfl, by decide, fun x u hu => by
  simp only [List.mem_cons, List.not_mem_nil, or_false] at hu
  rcases hu with rfl | rfl | rfl <;> rfl⟩
theorem twR_k : twR.k = 3 := rfl

theorem Try.infoTw : (Try.prog.info? 77).map (fun i => (i.zero, i.size, i.bytes)) = some (some (.agg #[.int .i64 0, .int .i64 0, .int .i64 0]), 3, 24) := by kernel_rfl

theorem twSlice : SliceOf Try.prog 24 77 twR.k 24 := SliceOf.of Try.underlying24 Try.infoTw rfl

/-- What the walk wants to know of element k. -/
theorem RdR.tw {w : World} {B : Nat} {A : Option Addr} {xs : List Tw} {k : Nat} (h : RdR twR w B A xs) (hk : k < xs.length) :
    ∃ ad, A = some ad ∧ ad.block < B ∧ w.cell? (ad.add (k * 3)) = some (.int .i64 xs[k].due) ∧ w.cell? ⟨(ad.add (k * 3)).block, (ad.add (k * 3)).off + 1, none⟩ = some (.int .i64 xs[k].seq) ∧ w.cell? ⟨(ad.add (k * 3)).block, (ad.add (k * 3)).off + 2, none⟩ = some (.int .i64 xs[k].lefts) := by
  obtain ⟨ad, e, hb, hc⟩ := h.at_ hk
  refine ⟨ad, e, hb, hc 0 _ rfl, ?_, ?_⟩
  · rw [← fieldAt_eq _ _ _ (by decide)]; exact hc 1 _ rfl
  · rw [← fieldAt_eq _ _ _ (by decide)]; exact hc 2 _ rfl

/-- The same of the first element. -/
theorem RdR.head {w : World} {B : Nat} {A : Option Addr} {x : Tw} {r : List Tw} (h : RdR twR w B A (x :: r)) :
    ∃ ad, A = some ad ∧ ad.block < B ∧ w.cell? ad = some (.int .i64 x.due) ∧ w.cell? ⟨ad.block, ad.off + 1, none⟩ = some (.int .i64 x.seq) ∧ w.cell? ⟨ad.block, ad.off + 2, none⟩ = some (.int .i64 x.lefts) := by
  obtain ⟨ad, e, hb, c0, c1, c2⟩ := h.tw (k := 0) (by simp)
  have e0 : ad.add (0 * 3) = ad := rfl
  rw [e0] at c0 c1 c2
  exact ⟨ad, e, hb, c0, c1, c2⟩

/-- What a copy in the making holds behind k rounds. -/
def twPart (xs : List Tw) (k : Nat) : List Tw := xs.take k ++ List.replicate (xs.length - k) ⟨0, 0, 0⟩
theorem twPart_zero (xs : List Tw) : twPart xs 0 = List.replicate xs.length ⟨0, 0, 0⟩ := by simp [twPart]
theorem twPart_all (xs : List Tw) (k : Nat) (h : xs.length ≤ k) : twPart xs k = xs := by
  simp [twPart, List.take_of_length_le h, Nat.sub_eq_zero_of_le h]
theorem twPart_len (xs : List Tw) (k : Nat) (h : k ≤ xs.length) : (twPart xs k).length = xs.length := by simp [twPart]; omega
theorem twPart_succ (xs : List Tw) (k : Nat) (h : k < xs.length) : (twPart xs k).set k xs[k] = twPart xs (k + 1) := by
  unfold twPart
  have e : xs.length - k = (xs.length - (k + 1)) + 1 := by omega
  rw [List.set_append_right _ _ (by simp; omega)]
  simp only [List.length_take, Nat.min_eq_left (Nat.le_of_lt h), Nat.sub_self]
  rw [e, List.replicate_succ, List.set_cons_zero, List.take_succ_eq_append_getElem h, List.append_assoc]
  rfl
theorem twPart_at (xs : List Tw) (k : Nat) (h : k < xs.length) : (twPart xs k)[k]'(by rw [twPart_len xs k (Nat.le_of_lt h)]; exact h) = ⟨0, 0, 0⟩ := by
  unfold twPart
  rw [List.getElem_append_right (by simp; omega)]
  simp

/-- The three stores of one element. -/
theorem own_put {w : World} {base e n c g : Nat} {xs : List Tw} (h : w.ownsRow base e 3 (.slice (some ⟨g, 0, none⟩) n c) n (twR.flat xs)) {i : Nat} (hi : i < xs.length) (x : Tw) :
    (((w.setCell ⟨g, i * 3, none⟩ (.int .i64 x.due)).setCell ⟨g, i * 3 + 1, none⟩ (.int .i64 x.seq)).setCell ⟨g, i * 3 + 2, none⟩ (.int .i64 x.lefts)).ownsRow base e 3 (.slice (some ⟨g, 0, none⟩) n c) n (twR.flat (xs.set i x)) := by
  have h1 := ((h.stored (i * 3) (.int .i64 x.due)).1.stored (i * 3 + 1) (.int .i64 x.seq)).1.stored (i * 3 + 2) (.int .i64 x.lefts) |>.1
  have hl : (twR.flat xs).length = xs.length * 3 := twR.flat_len xs
  have e1 : (((twR.flat xs).set (i * 3) (.int .i64 x.due)).set (i * 3 + 1) (.int .i64 x.seq)).set (i * 3 + 2) (.int .i64 x.lefts) = twR.flat (xs.set i x) := by
    rw [← twR.flat_set xs i x hi]
    rw [← putAt_nil ((((twR.flat xs).set (i * 3) (.int .i64 x.due)).set (i * 3 + 1) (.int .i64 x.seq)).set (i * 3 + 2) (.int .i64 x.lefts)) (i * 3 + 2 + 1)]
    rw [putAt_cons _ _ _ _ (by simp; omega), putAt_cons _ _ _ _ (by simp; omega), putAt_cons _ _ _ _ (by omega)]
    rfl
  rw [e1] at h1
  exact h1

theorem Tw.ext_iff' {a b : Tw} : a = b ↔ a.due = b.due ∧ a.seq = b.seq ∧ a.lefts = b.lefts := by cases a; cases b; simp
/-- What the marks write: k, k+1, .. -/
def twMark (k : Int) (i : Nat) : Tw := ⟨k + 3 * i, k + 3 * i + 1, k + 3 * i + 2⟩
def marksT (k : Int) (n : Nat) : List Tw := (List.range n).map (twMark k)
theorem marksT_len (k : Int) (n : Nat) : (marksT k n).length = n := by simp [marksT]
theorem marksT_at (k : Int) (n i : Nat) (h : i < (marksT k n).length) : (marksT k n)[i] = twMark k i := by simp [marksT]

/-- The first j elements of a row marked. -/
def twMarked (k : Int) (ys : List Tw) (j : Nat) : List Tw := marksT k j ++ ys.drop j
theorem twMarked_zero (k : Int) (ys : List Tw) : twMarked k ys 0 = ys := by simp [twMarked, marksT]
theorem twMarked_len (k : Int) (ys : List Tw) (j : Nat) (h : j ≤ ys.length) : (twMarked k ys j).length = ys.length := by simp [twMarked, marksT_len]; omega
theorem twMarked_all (k : Int) (ys : List Tw) : twMarked k ys ys.length = marksT k ys.length := by simp [twMarked]
theorem twMarked_at (k : Int) (ys : List Tw) (j : Nat) (h : j < ys.length) : (twMarked k ys j)[j]'(by rw [twMarked_len k ys j (Nat.le_of_lt h)]; exact h) = ys[j] := by
  unfold twMarked
  rw [List.getElem_append_right (by rw [marksT_len]; exact Nat.le_refl _)]
  simp [marksT_len]
theorem twMarked_succ (k : Int) (ys : List Tw) (j : Nat) (h : j < ys.length) : (twMarked k ys j).set j (twMark k j) = twMarked k ys (j + 1) := by
  unfold twMarked
  rw [List.set_append_right _ _ (by rw [marksT_len]; exact Nat.le_refl _), marksT_len, Nat.sub_self, List.drop_eq_getElem_cons h, List.set_cons_zero]
  simp [marksT, List.range_succ]

/-- The three stores into a box. -/
theorem Blk.set3 {w : World} {g : Nat} {t : TypeId} {a b c : Value} (h : Blk w g t #[a, b, c]) (x y z : Value) : Blk (((w.setCell ⟨g, 0, none⟩ x).setCell ⟨g, 1, none⟩ y).setCell ⟨g, 2, none⟩ z) g t #[x, y, z] := by
  have := ((h.set_ 0 x).set_ 1 y).set_ 2 z
  simpa using this
theorem Kept.set3 {W w : World} {lo hi g : Nat} (h : Kept lo hi W w) (hg : W.heap.size ≤ g ∨ (lo ≤ g ∧ g < hi)) (x y z : Value) : Kept lo hi W (((w.setCell ⟨g, 0, none⟩ x).setCell ⟨g, 1, none⟩ y).setCell ⟨g, 2, none⟩ z) :=
  ((h.setCell hg _).setCell hg _).setCell hg _
end Go.Proofs.Ytnphjohmkjoefaa
