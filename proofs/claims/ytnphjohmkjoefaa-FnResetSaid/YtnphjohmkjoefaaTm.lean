/- Slices of records of the type Timer: how they lie in memory, and the helper functions of the laws over them (size, copy, compare, mark, check marks); no condition beyond what each theorem states. Written by tools/recgen.py. -/
import Derived.Test.YtnphjohmkjoefaaLv
namespace Go.Proofs.Ytnphjohmkjoefaa
open Go.RowKit Go.Sort

structure Tm where
  seq : Int
  due : Int
  what : Int
  whom : Int
  armed : Bool
deriving DecidableEq
/-- How a record lies in memory. -/
def tmR : Rec Tm := ⟨5, fun x => [.int .i64 x.seq, .int .i64 x.due, .int .i64 x.what, .int .i64 x.whom, .bool x.armed], fun _ => rfl, by decide, fun x u hu => by
  simp only [List.mem_cons, List.not_mem_nil, or_false] at hu
  rcases hu with rfl | rfl | rfl | rfl | rfl <;> rfl⟩
theorem tmR_k : tmR.k = 5 := rfl
theorem Try.infoTm : (Try.prog.info? 50).map (fun i => (i.zero, i.size, i.bytes)) = some (some (.agg #[.int .i64 0, .int .i64 0, .int .i64 0, .int .i64 0, .bool false]), 5, 40) := by kernel_rfl
theorem tmSlice : SliceOf Try.prog 25 50 tmR.k 40 := SliceOf.of Try.underlying25 Try.infoTm rfl
/-- What the walk wants to know of element k. -/
theorem RdR.tm {w : World} {B : Nat} {A : Option Addr} {xs : List Tm} {k : Nat} (h : RdR tmR w B A xs) (hk : k < xs.length) :
    ∃ ad, A = some ad ∧ ad.block < B ∧ w.cell? (ad.add (k * 5)) = some (.int .i64 xs[k].seq) ∧ w.cell? ⟨(ad.add (k * 5)).block, (ad.add (k * 5)).off + 1, none⟩ = some (.int .i64 xs[k].due) ∧ w.cell? ⟨(ad.add (k * 5)).block, (ad.add (k * 5)).off + 2, none⟩ = some (.int .i64 xs[k].what) ∧ w.cell? ⟨(ad.add (k * 5)).block, (ad.add (k * 5)).off + 3, none⟩ = some (.int .i64 xs[k].whom) ∧ w.cell? ⟨(ad.add (k * 5)).block, (ad.add (k * 5)).off + 4, none⟩ = some (.bool xs[k].armed) := by
  obtain ⟨ad, e, hb, hc⟩ := h.at_ hk
  refine ⟨ad, e, hb, hc 0 _ rfl, ?_, ?_, ?_, ?_⟩
  · rw [← fieldAt_eq _ _ _ (by decide)]; exact hc 1 _ rfl
  · rw [← fieldAt_eq _ _ _ (by decide)]; exact hc 2 _ rfl
  · rw [← fieldAt_eq _ _ _ (by decide)]; exact hc 3 _ rfl
  · rw [← fieldAt_eq _ _ _ (by decide)]; exact hc 4 _ rfl
/-- What a copy in the making holds behind k rounds. -/
def tmPart (xs : List Tm) (k : Nat) : List Tm := xs.take k ++ List.replicate (xs.length - k) ⟨0, 0, 0, 0, false⟩
theorem tmPart_zero (xs : List Tm) : tmPart xs 0 = List.replicate xs.length ⟨0, 0, 0, 0, false⟩ := by simp [tmPart]
theorem tmPart_all (xs : List Tm) (k : Nat) (h : xs.length ≤ k) : tmPart xs k = xs := by
  simp [tmPart, List.take_of_length_le h, Nat.sub_eq_zero_of_le h]
theorem tmPart_len (xs : List Tm) (k : Nat) (h : k ≤ xs.length) : (tmPart xs k).length = xs.length := by simp [tmPart]; omega
theorem tmPart_succ (xs : List Tm) (k : Nat) (h : k < xs.length) : (tmPart xs k).set k xs[k] = tmPart xs (k + 1) := by
  unfold tmPart
  have e : xs.length - k = (xs.length - (k + 1)) + 1 := by omega
  rw [List.set_append_right _ _ (by simp; omega)]
  simp only [List.length_take, Nat.min_eq_left (Nat.le_of_lt h), Nat.sub_self]
  rw [e, List.replicate_succ, List.set_cons_zero, List.take_succ_eq_append_getElem h, List.append_assoc]
  rfl
theorem tmPart_at (xs : List Tm) (k : Nat) (h : k < xs.length) : (tmPart xs k)[k]'(by rw [tmPart_len xs k (Nat.le_of_lt h)]; exact h) = ⟨0, 0, 0, 0, false⟩ := by
  unfold tmPart
  rw [List.getElem_append_right (by simp; omega)]
  simp

/-- The stores of one record. -/
theorem own_putTm {w : World} {base e n c g : Nat} {xs : List Tm} (h : w.ownsRow base e 5 (.slice (some ⟨g, 0, none⟩) n c) n (tmR.flat xs)) {i : Nat} (hi : i < xs.length) (x : Tm) :
    (((((w.setCell ⟨g, i * 5, none⟩ (.int .i64 x.seq)).setCell ⟨g, i * 5 + 1, none⟩ (.int .i64 x.due)).setCell ⟨g, i * 5 + 2, none⟩ (.int .i64 x.what)).setCell ⟨g, i * 5 + 3, none⟩ (.int .i64 x.whom)).setCell ⟨g, i * 5 + 4, none⟩ (.bool x.armed)).ownsRow base e 5 (.slice (some ⟨g, 0, none⟩) n c) n (tmR.flat (xs.set i x)) := by
  have h1 := (((((h.stored (i * 5) (.int .i64 x.seq)).1.stored (i * 5 + 1) (.int .i64 x.due)).1.stored (i * 5 + 2) (.int .i64 x.what)).1.stored (i * 5 + 3) (.int .i64 x.whom)).1.stored (i * 5 + 4) (.bool x.armed)).1
  have hl : (tmR.flat xs).length = xs.length * 5 := tmR.flat_len xs
  have e1 : ((((((tmR.flat xs).set (i * 5) (.int .i64 x.seq)).set (i * 5 + 1) (.int .i64 x.due)).set (i * 5 + 2) (.int .i64 x.what)).set (i * 5 + 3) (.int .i64 x.whom)).set (i * 5 + 4) (.bool x.armed)) = tmR.flat (xs.set i x) := by
    rw [← tmR.flat_set xs i x hi]
    rw [← putAt_nil ((((((tmR.flat xs).set (i * 5) (.int .i64 x.seq)).set (i * 5 + 1) (.int .i64 x.due)).set (i * 5 + 2) (.int .i64 x.what)).set (i * 5 + 3) (.int .i64 x.whom)).set (i * 5 + 4) (.bool x.armed)) (i * 5 + 4 + 1)]
    rw [putAt_cons _ _ _ _ (by simp; omega), putAt_cons _ _ _ _ (by simp; omega), putAt_cons _ _ _ _ (by simp; omega), putAt_cons _ _ _ _ (by simp; omega), putAt_cons _ _ _ _ (by omega)]
    rfl
  rw [e1] at h1
  exact h1

theorem Tm.ext_iff' {a b : Tm} : a = b ↔ a.seq = b.seq ∧ a.due = b.due ∧ a.what = b.what ∧ a.whom = b.whom ∧ a.armed = b.armed := by cases a; cases b; simp
/-- What the marks write: k, k+1, .. -/
def tmMark (k : Int) (i : Nat) : Tm := ⟨k + 5 * i, k + 5 * i + 1, k + 5 * i + 1 + 1, k + 5 * i + 1 + 1 + 1, ((k + 5 * i + 1 + 1 + 1 + 1) % 3 == 0)⟩
def marksTm (k : Int) (n : Nat) : List Tm := (List.range n).map (tmMark k)
theorem marksTm_len (k : Int) (n : Nat) : (marksTm k n).length = n := by simp [marksTm]
theorem marksTm_at (k : Int) (n i : Nat) (h : i < (marksTm k n).length) : (marksTm k n)[i] = tmMark k i := by simp [marksTm]

/-- The first j records of a row marked. -/
def tmMarked (k : Int) (ys : List Tm) (j : Nat) : List Tm := marksTm k j ++ ys.drop j
theorem tmMarked_zero (k : Int) (ys : List Tm) : tmMarked k ys 0 = ys := by simp [tmMarked, marksTm]
theorem tmMarked_len (k : Int) (ys : List Tm) (j : Nat) (h : j ≤ ys.length) : (tmMarked k ys j).length = ys.length := by simp [tmMarked, marksTm_len]; omega
theorem tmMarked_all (k : Int) (ys : List Tm) : tmMarked k ys ys.length = marksTm k ys.length := by simp [tmMarked]
theorem tmMarked_at (k : Int) (ys : List Tm) (j : Nat) (h : j < ys.length) : (tmMarked k ys j)[j]'(by rw [tmMarked_len k ys j (Nat.le_of_lt h)]; exact h) = ys[j] := by
  unfold tmMarked
  rw [List.getElem_append_right (by rw [marksTm_len]; exact Nat.le_refl _)]
  simp [marksTm_len]
theorem tmMarked_succ (k : Int) (ys : List Tm) (j : Nat) (h : j < ys.length) : (tmMarked k ys j).set j (tmMark k j) = tmMarked k ys (j + 1) := by
  unfold tmMarked
  rw [List.set_append_right _ _ (by rw [marksTm_len]; exact Nat.le_refl _), marksTm_len, Nat.sub_self, List.drop_eq_getElem_cons h, List.set_cons_zero]
  simp [marksTm, List.range_succ]

/-- A slice value that reads as xs. -/
def RdTm (w : World) (B : Nat) (v : Value) (xs : List Tm) : Prop := ∃ A c, v = .slice A xs.length c ∧ SL tmR w B A c xs
/-- A slice value of the call's own. -/
def OwnTm (w : World) (lo hi : Nat) (v : Value) (xs : List Tm) : Prop := ∃ D d, v = .slice D xs.length d ∧ OwnZ w lo hi 50 5 D xs.length d (tmR.flat xs)
section
variable {w w' : World} {B B' lo hi lo' hi' : Nat} {v : Value} {xs : List Tm}
theorem RdTm.kept (h : RdTm w B v xs) (hB : B ≤ w.heap.size) (hk : Kept lo hi w w') (hr : hi ≤ lo ∨ B ≤ lo) : RdTm w' B v xs := by
  obtain ⟨A, c, e, h⟩ := h; exact ⟨A, c, e, h.kept hB hk hr⟩
theorem RdTm.wide (h : RdTm w B v xs) (hB : B ≤ B') : RdTm w B' v xs := by
  obtain ⟨A, c, e, h⟩ := h; exact ⟨A, c, e, h.wide hB⟩
theorem RdTm.up (h : RdTm w w.heap.size v xs) (hk : Kept 0 0 w w') : RdTm w' w'.heap.size v xs := (h.kept (Nat.le_refl _) hk (.inl (Nat.le_refl _))).wide hk.size
theorem RdTm.len (h : RdTm w B v xs) : xs.length ≤ maxLen := by obtain ⟨A, c, e, h⟩ := h; exact h.rd.1
theorem OwnTm.kept (h : OwnTm w lo hi v xs) (hk : Kept lo' hi' w w') (hr : hi' ≤ lo' ∨ hi ≤ lo' ∨ hi' ≤ lo) : OwnTm w' lo hi v xs := by
  obtain ⟨A, c, e, h⟩ := h; exact ⟨A, c, e, h.kept hk hr⟩
theorem OwnTm.wide (h : OwnTm w lo hi v xs) (hl : lo' ≤ lo) (hh : hi ≤ hi') : OwnTm w lo' hi' v xs := by
  obtain ⟨A, c, e, h⟩ := h; exact ⟨A, c, e, h.wide hl hh⟩
theorem OwnTm.rd (h : OwnTm w lo hi v xs) : RdTm w hi v xs := by
  obtain ⟨D, d, e, h⟩ := h; exact ⟨D, d, e, (OwnZ.sl (R := tmR) h).2⟩
theorem OwnTm.rdW (h : OwnTm w lo hi v xs) (hh : hi ≤ w.heap.size) : RdTm w w.heap.size v xs := h.rd.wide hh
theorem OwnTm.nil (w : World) (lo hi : Nat) : OwnTm w lo hi (.slice none 0 0) [] := ⟨none, 0, rfl, ⟨⟨rfl, .inl ⟨rfl, rfl⟩⟩, by intro ad h; cases h⟩⟩
end
end Go.Proofs.Ytnphjohmkjoefaa
