/- Chapter 11 on paper: lists of tasks, the indices that a test picks, waking; and the reference's TasksOk; no condition beyond that the slice can be read. -/
import Derived.Test.YtfpnpjpcjbndoaaIa
import Derived.Test.YtfpnpjpcjbndoaaHb
import Derived.Test.YtfpnpjpcjbndoaaNi
namespace Go.Proofs.Ytfpnpjpcjbndoaa
open Go.RowKit Go.Sort

def tasksB (l : List Tk) : Bool := l.all tkB && decide (l.length ≤ 60)
theorem tasksB_iff {l : List Tk} : tasksB l = true ↔ (∀ x ∈ l, tkB x = true) ∧ l.length ≤ 60 := by
  unfold tasksB
  rw [Bool.and_eq_true, List.all_eq_true, decide_eq_true_iff]
theorem tasksB_not {l : List Tk} {k : Nat} (hk : k < l.length) (h : tkB l[k] = false) : tasksB l = false := by
  cases hp : tasksB l with
  | false => rfl
  | true =>
    have := (tasksB_iff.1 hp).1 _ (List.getElem_mem hk)
    rw [h] at this; cases this
theorem tasksB_len {l : List Tk} (h : ∀ k (hk : k < l.length), tkB l[k] = true) : tasksB l = decide (l.length ≤ 60) := by
  unfold tasksB
  have : l.all tkB = true := by
    rw [List.all_eq_true]
    intro x hx
    obtain ⟨k, hk, rfl⟩ := List.getElem_of_mem hx
    exact h k hk
  rw [this, Bool.true_and]
/-- The places of those that a test picks. -/
def idxs (p : Tk → Bool) : Nat → List Tk → List Int
  | _, [] => []
  | i, x :: r => if p x = true then (i : Int) :: idxs p (i + 1) r else idxs p (i + 1) r
def idxTo (p : Tk → Bool) (l : List Tk) (k : Nat) : List Int := idxs p 0 (l.take k)
theorem idxs_append (p : Tk → Bool) (xs ys : List Tk) : ∀ i, idxs p i (xs ++ ys) = idxs p i xs ++ idxs p (i + xs.length) ys := by
  induction xs with
  | nil => intro i; simp [idxs]
  | cons x r ih =>
    intro i
    simp only [List.cons_append, idxs, ih, List.length_cons]
    rw [show i + 1 + r.length = i + (r.length + 1) from by omega]
    split <;> rfl
theorem idxTo_succ (p : Tk → Bool) (l : List Tk) {k : Nat} (h : k < l.length) : idxTo p l (k + 1) = if p l[k] = true then idxTo p l k ++ [(k : Int)] else idxTo p l k := by
  unfold idxTo
  rw [List.take_succ_eq_append_getElem h, idxs_append]
  simp only [idxs, List.length_take, Nat.min_eq_left (Nat.le_of_lt h), Nat.zero_add]
  split <;> simp
theorem idxTo_zero (p : Tk → Bool) (l : List Tk) : idxTo p l 0 = [] := by simp [idxTo, idxs]
theorem idxTo_all (p : Tk → Bool) (l : List Tk) {k : Nat} (h : l.length ≤ k) : idxTo p l k = idxs p 0 l := by rw [idxTo, List.take_of_length_le h]
theorem idxs_len (p : Tk → Bool) (xs : List Tk) : ∀ i, (idxs p i xs).length ≤ xs.length := by
  induction xs with
  | nil => intro i; simp [idxs]
  | cons x r ih => intro i; have := ih (i + 1); simp only [idxs]; split <;> simp <;> omega
theorem idxTo_len (p : Tk → Bool) (l : List Tk) (k : Nat) : (idxTo p l k).length ≤ l.length := by
  have := idxs_len p (l.take k) 0
  have h2 := List.length_take_le' k l
  unfold idxTo
  omega
theorem mem_idxs (p : Tk → Bool) (xs : List Tk) (z : Int) : ∀ i, z ∈ idxs p i xs ↔ ∃ j : Nat, ∃ h : j < xs.length, z = ((i + j : Nat) : Int) ∧ p xs[j] = true := by
  induction xs with
  | nil => intro i; simp [idxs]
  | cons x r ih =>
    intro i
    have key : z ∈ idxs p (i + 1) r ↔ ∃ j : Nat, ∃ h : j < r.length, z = ((i + (j + 1) : Nat) : Int) ∧ p r[j] = true := by
      rw [ih (i + 1)]
      constructor
      · rintro ⟨j, h, e, q⟩; exact ⟨j, h, by omega, q⟩
      · rintro ⟨j, h, e, q⟩; exact ⟨j, h, by omega, q⟩
    constructor
    · intro h
      simp only [idxs] at h
      split at h
      · rename_i hx
        rcases List.mem_cons.1 h with h | h
        · exact ⟨0, by simp, by omega, hx⟩
        · obtain ⟨j, hj, e, q⟩ := key.1 h
          exact ⟨j + 1, by simp; omega, e, by simpa using q⟩
      · obtain ⟨j, hj, e, q⟩ := key.1 h
        exact ⟨j + 1, by simp; omega, e, by simpa using q⟩
    · rintro ⟨j, hj, e, q⟩
      simp only [idxs]
      cases j with
      | zero =>
        have q' : p x = true := by simpa using q
        rw [if_pos q']
        exact List.mem_cons.2 (.inl (by omega))
      | succ j =>
        have h2 : z ∈ idxs p (i + 1) r := key.2 ⟨j, by simpa using hj, e, by simpa using q⟩
        split
        · exact List.mem_cons_of_mem _ h2
        · exact h2
theorem mem_idx {p : Tk → Bool} {l : List Tk} {k : Nat} (hk : k < l.length) : (k : Int) ∈ idxs p 0 l ↔ p l[k] = true := by
  rw [mem_idxs]
  constructor
  · rintro ⟨j, hj, e, q⟩
    have : j = k := by omega
    subst this; exact q
  · intro q; exact ⟨k, hk, by simp, q⟩
theorem idx_range {p : Tk → Bool} {l : List Tk} {z : Int} (h : z ∈ idxs p 0 l) : 0 ≤ z ∧ z < l.length := by
  obtain ⟨j, hj, e, _⟩ := (mem_idxs p l z 0).1 h
  omega
/-- The test of ParkedOn. -/
def isPk (y h : Int) (t : Tk) : Bool := decide (t.st = 1) && (decide (t.why = y) && decide (t.what = h))
def isRdy (t : Tk) : Bool := decide (t.st = 0)
def parkedL (l : List Tk) (y h : Int) : List Int := if tasksB l = true then idxs (isPk y h) 0 l else []
def readyL (l : List Tk) : List Int := if tasksB l = true then idxs isRdy 0 l else []
def wokenL (l : List Tk) (y h r : Int) : List Tk := if tasksB l = true then l.map (fun t => if isPk y h t = true then readyT t r else t) else []
theorem parkedL_len (l : List Tk) (y h : Int) : (parkedL l y h).length ≤ 60 := by
  unfold parkedL
  split
  · rename_i hb
    have := idxs_len (isPk y h) l 0
    have := (tasksB_iff.1 hb).2
    omega
  · simp
theorem readyL_len (l : List Tk) : (readyL l).length ≤ 60 := by
  unfold readyL
  split
  · rename_i hb
    have := idxs_len isRdy l 0
    have := (tasksB_iff.1 hb).2
    omega
  · simp
theorem wokenL_len (l : List Tk) (y h r : Int) : (wokenL l y h r).length ≤ 60 := by
  unfold wokenL
  split
  · rename_i hb
    rw [List.length_map]; exact (tasksB_iff.1 hb).2
  · simp
/-- The tasks of a list, those readied that a list of places names. -/
def outW (l : List Tk) (r : Int) (ws : List Int) : List Tk := l.mapIdx (fun i t => if (i : Int) ∈ ws then readyT t r else t)
theorem outW_len (l : List Tk) (r : Int) (ws : List Int) : (outW l r ws).length = l.length := by simp [outW]
theorem outW_at (l : List Tk) (r : Int) (ws : List Int) {k : Nat} (hk : k < l.length) : (outW l r ws)[k]'(by rw [outW_len]; exact hk) = if (k : Int) ∈ ws then readyT l[k] r else l[k] := by simp [outW]
theorem outW_nil (l : List Tk) (r : Int) : outW l r [] = l := by
  apply List.ext_getElem (by simp [outW])
  intro i h1 h2
  simp [outW]
theorem outW_snoc (l : List Tk) (r : Int) (ws : List Int) {k : Nat} (hk : k < l.length) : (outW l r ws).set k (readyT l[k] r) = outW l r (ws ++ [(k : Int)]) := by
  apply List.ext_getElem (by simp [outW])
  intro i h1 h2
  have hi : i < l.length := by simpa [outW] using h2
  rw [List.getElem_set, outW_at l r _ hi, outW_at l r _ hi]
  by_cases e : k = i
  · subst e; simp
  · rw [if_neg e]
    have : (i : Int) ∈ ws ++ [(k : Int)] ↔ (i : Int) ∈ ws := by
      simp only [List.mem_append, List.mem_singleton]
      constructor
      · rintro (h | h)
        · exact h
        · omega
      · exact .inl
    simp only [this]
theorem outW_all (l : List Tk) (y h r : Int) : outW l r (idxs (isPk y h) 0 l) = l.map (fun t => if isPk y h t = true then readyT t r else t) := by
  apply List.ext_getElem (by simp [outW])
  intro i h1 h2
  have hi : i < l.length := by simpa using h2
  rw [outW_at l r _ hi, List.getElem_map]
  simp only [mem_idx hi]

set_option maxHeartbeats 1600000 in
theorem tasks11_any (l : List Tk) (v : Value) (w : World) (h : RdTk w w.heap.size v l) :
    Calls Try.prog 10 #[v] w fun e w' => e = .returned (.bool (tasksB l)) ∧ Kept 0 0 w w' := by
  obtain ⟨A, c, rfl, hs⟩ := h
  have hx := hs.rd.1
  unfold maxLen at hx
  have H := Lib.hid hs.rd
  clear hs
  go_enter Try.func10, Try.ntmps10
  go_wp2
  go_loopw [3] (fun i wr => ∃ k : Nat, k ≤ l.length ∧ i = .int .i64 k ∧ Hid (Kept 0 0 w wr) ∧ Hid (∀ j (hj : j < l.length), j < k → tkB l[j] = true)) (fun i _ => l.length - (intOf i).toNat)
  case atStart => exact ⟨0, Nat.zero_le _, by rfl, Kept.refl _ _ _, fun j hj hjk => by omega⟩
  case round =>
    obtain ⟨k, hk, rfl, HK, HA⟩ := hrel
    by_cases hlt : k < l.length
    · obtain ⟨ad, rfl, _, c0, c1, c2, c3, c4, c5, c6, c7, c8⟩ := (H.out.kept (Nat.le_refl _) HK.out (.inl (Nat.le_refl _))).tk hlt
      have i1 : (k : Int) < (l.length : Int) := by omega
      obtain ⟨x, hxk⟩ : ∃ x, x = l[k] := ⟨_, rfl⟩
      rw [← hxk] at c0 c1 c2 c3 c4 c5 c6 c7 c8
      have HX := Lib.hid hxk
      clear hxk
      go_wp2_with fail
      with_reducible refine (taskOk_any x _).mono ?_
      rintro e w2 ⟨rfl, hk2⟩
      have HK2 := Lib.hid (HK.out.trans hk2)
      cases hb : tkB x
      · have hp := tasksB_not hlt (by rw [← HX.out]; exact hb)
        go_wp2_with fail
        go_ret
        exact ⟨ret_bool hp.symm, HK2.out⟩
      · have hb2 := Lib.hid hb
        clear hb hk2 HK c0 c1 c2 c3 c4 c5 c6 c7 c8
        go_wp2_with fail
        go_roundw
        case rel => exact ⟨k + 1, by omega, by go_num, HK2, fun j hj hjk => by
          rcases Nat.lt_or_ge j k with h' | h'
          · exact HA.out j hj h'
          · have : j = k := by omega
            subst this
            rw [← HX.out]; exact hb2.out⟩
        case measure => simp [intOf]; omega
    · have i1 : ¬ (k : Int) < (l.length : Int) := by omega
      have hp := tasksB_len (l := l) (fun j hj => HA.out j hj (by omega))
      go_wp2_with fail
      go_ret
      exact ⟨ret_bool (by rw [Bool.eq_iff_iff]; simp <;> omega), HK.out⟩
end Go.Proofs.Ytfpnpjpcjbndoaa
