/- Numbers, words and lines as bytes, on paper: written and read back; no program is named here. -/
import Derived.Test.YtoccbmmjcbjacaaDoorGr
namespace Go.Proofs.YtoccbmmjcbjacaaDoor

def isDig (c : UInt8) : Bool := decide (48 ≤ c.toNat) && decide (c.toNat ≤ 57)
theorem isDig_iff {c : UInt8} : isDig c = true ↔ 48 ≤ c.toNat ∧ c.toNat ≤ 57 := by simp [isDig]
/-- The digits of a number, the first one first. -/
def digs (n : Nat) : List UInt8 := if n < 10 then [UInt8.ofNat (48 + n)] else digs (n / 10) ++ [UInt8.ofNat (48 + n % 10)]
termination_by n
decreasing_by omega
theorem digs_lt {n : Nat} (h : n < 10) : digs n = [UInt8.ofNat (48 + n)] := by rw [digs]; simp [h]
theorem digs_ge {n : Nat} (h : ¬ n < 10) : digs n = digs (n / 10) ++ [UInt8.ofNat (48 + n % 10)] := by rw [digs]; simp [h]
def numOf (l : List UInt8) : Nat := l.foldl (fun a c => a * 10 + (c.toNat - 48)) 0
theorem numOf_snoc (l : List UInt8) (c : UInt8) : numOf (l ++ [c]) = numOf l * 10 + (c.toNat - 48) := by simp [numOf]
theorem numOf_one (c : UInt8) : numOf [c] = c.toNat - 48 := by simp [numOf]
theorem byte_of {k : Nat} (h : k < 10) : (UInt8.ofNat (48 + k)).toNat = 48 + k := by simp; omega
theorem byte_eq {c : UInt8} (h : isDig c = true) : UInt8.ofNat (48 + (c.toNat - 48)) = c := by
  have := isDig_iff.1 h
  rw [show 48 + (c.toNat - 48) = c.toNat from by omega]
  simp
theorem digs_ne (n : Nat) : digs n ≠ [] := by
  by_cases h : n < 10
  · rw [digs_lt h]; simp
  · rw [digs_ge h]; simp
theorem digs_num (n : Nat) : numOf (digs n) = n := by
  induction n using Nat.strongRecOn with
  | _ n ih =>
    by_cases h : n < 10
    · rw [digs_lt h, numOf_one, byte_of h]; omega
    · rw [digs_ge h, numOf_snoc, ih _ (by omega), byte_of (Nat.mod_lt _ (by omega))]; omega
theorem digs_all (n : Nat) : ∀ c ∈ digs n, isDig c = true := by
  induction n using Nat.strongRecOn with
  | _ n ih =>
    intro c hc
    by_cases h : n < 10
    · rw [digs_lt h] at hc
      simp only [List.mem_cons, List.not_mem_nil, or_false] at hc
      subst hc
      rw [isDig_iff, byte_of h]; omega
    · rw [digs_ge h] at hc
      rcases List.mem_append.1 hc with hc | hc
      · exact ih _ (by omega) c hc
      · simp only [List.mem_cons, List.not_mem_nil, or_false] at hc
        subst hc
        rw [isDig_iff, byte_of (Nat.mod_lt _ (by omega))]; omega
theorem digs_zero : digs 0 = [48] := by rw [digs_lt (by omega)]; rfl
theorem digs_head (n : Nat) (hn : 0 < n) : (digs n).head? ≠ some 48 := by
  induction n using Nat.strongRecOn with
  | _ n ih =>
    by_cases h : n < 10
    · rw [digs_lt h]
      intro e
      simp only [List.head?_cons, Option.some.injEq] at e
      have := congrArg UInt8.toNat e
      rw [byte_of h] at this
      have e2 : (48 : UInt8).toNat = 48 := rfl
      omega
    · rw [digs_ge h, List.head?_append]
      have := ih (n / 10) (by omega) (by omega)
      cases hd : (digs (n / 10)).head? with
      | none => rw [List.head?_eq_none_iff] at hd; exact absurd hd (digs_ne _)
      | some c => rw [hd] at this; simpa using this
theorem digs_len (n k : Nat) (hk : 1 ≤ k) (h : n < 10 ^ k) : (digs n).length ≤ k := by
  induction k generalizing n with
  | zero => omega
  | succ k ih =>
    by_cases h1 : n < 10
    · rw [digs_lt h1]; simp
    · rw [digs_ge h1, List.length_append]
      have hk1 : 1 ≤ k := by
        rcases Nat.eq_zero_or_pos k with rfl | h'
        · simp at h; omega
        · exact h'
      have := ih (n / 10) hk1 (by rw [Nat.pow_succ] at h; omega)
      simp; omega
theorem num_mono (l : List UInt8) (a : Nat) : a ≤ l.foldl (fun a c => a * 10 + (c.toNat - 48)) a := by
  induction l generalizing a with
  | nil => exact Nat.le_refl _
  | cons c r ih => exact Nat.le_trans (by omega) (ih (a * 10 + (c.toNat - 48)))
theorem num_pos {l : List UInt8} (ha : ∀ c ∈ l, isDig c = true) (hne : l ≠ []) (h0 : l.head? ≠ some 48) : 0 < numOf l := by
  cases l with
  | nil => exact absurd rfl hne
  | cons c r =>
    have hc := isDig_iff.1 (ha c (by simp))
    have h1 : c.toNat ≠ 48 := by
      intro e
      refine h0 ?_
      simp only [List.head?_cons, Option.some.injEq]
      exact UInt8.toNat.inj (by simpa using e)
    have := num_mono r (0 * 10 + (c.toNat - 48))
    show 0 < (c :: r).foldl _ 0
    simp only [List.foldl_cons]
    omega
/-- Digits that are written as the writer writes are the writer's. -/
theorem digs_of (l : List UInt8) (ha : ∀ c ∈ l, isDig c = true) (hne : l ≠ []) (h0 : l.head? ≠ some 48 ∨ l.length = 1) : digs (numOf l) = l := by
  obtain ⟨m, hm⟩ : ∃ m, m = l.length := ⟨_, rfl⟩
  induction m generalizing l with
  | zero => exact absurd (List.length_eq_zero_iff.1 hm.symm) hne
  | succ m ih =>
    rcases List.eq_nil_or_concat l with rfl | ⟨t, c, rfl⟩
    · exact absurd rfl hne
    rw [List.concat_eq_append] at ha hne h0 hm ⊢
    have hc : isDig c = true := ha c (by simp)
    have hd := isDig_iff.1 hc
    by_cases he : t = []
    · subst he
      rw [List.nil_append, numOf_one, digs_lt (by omega), byte_eq hc]
    · have hlen : t.length = m := by simp at hm; omega
      have hp0 : 0 < t.length := List.length_pos_iff.2 he
      have h2 : (t ++ [c]).head? ≠ some 48 := by
        rcases h0 with h | h
        · exact h
        · rw [List.length_append] at h; simp only [List.length_cons, List.length_nil] at h; omega
      have h3 : t.head? ≠ some 48 := by
        intro e
        refine h2 ?_
        rw [List.head?_append, e]; rfl
      have hall : ∀ x ∈ t, isDig x = true := fun x hx => ha x (by simp [hx])
      have hp := num_pos hall he h3
      have hi := ih t hall he (.inl h3) hlen.symm
      have hn : numOf (t ++ [c]) = numOf t * 10 + (c.toNat - 48) := numOf_snoc _ _
      rw [digs_ge (by omega), show numOf (t ++ [c]) / 10 = numOf t from by omega, hi, show numOf (t ++ [c]) % 10 = c.toNat - 48 from by omega, byte_eq hc]
/-- How a number is written. -/
def intS (v : Int) : List UInt8 := if v < 0 then 45 :: digs (-v).toNat else digs v.toNat
/-- How a number is read: behind a sign or none. -/
def readM (neg : Bool) (m : List UInt8) : Option Int :=
  if 1 ≤ m.length ∧ m.length ≤ 12 ∧ m.all isDig = true ∧ (m.head? = some 48 → neg = false ∧ m.length ≤ 1) then some (if neg then -(numOf m : Int) else (numOf m : Int)) else none
def readN (l : List UInt8) : Option Int := if l.head? = some 45 then readM true l.tail else readM false l
theorem digs_minus (n : Nat) : (digs n).head? ≠ some 45 := by
  intro e
  have h : (45 : UInt8) ∈ digs n := List.mem_of_mem_head? (by rw [e]; rfl)
  have := isDig_iff.1 (digs_all n _ h)
  have e2 : (45 : UInt8).toNat = 45 := rfl
  omega
theorem readN_digs (n : Nat) (h : n < 1000000000000) : readN (digs n) = some (n : Int) := by
  unfold readN
  rw [if_neg (digs_minus n)]
  unfold readM
  rw [if_pos, digs_num]
  · simp
  refine ⟨?_, digs_len n 12 (by omega) (by omega), by simpa using digs_all n, ?_⟩
  · exact List.length_pos_iff.2 (digs_ne n)
  · intro e
    refine ⟨rfl, ?_⟩
    rcases Nat.eq_zero_or_pos n with rfl | hp
    · rw [digs_zero]; simp
    · exact absurd e (digs_head n hp)
theorem readN_back {l : List UInt8} {v : Int} (h : readN l = some v) (hv : 0 ≤ v) : l = digs v.toNat := by
  unfold readN at h
  split at h
  · unfold readM at h
    by_cases hc : 1 ≤ l.tail.length ∧ l.tail.length ≤ 12 ∧ l.tail.all isDig = true ∧ (l.tail.head? = some 48 → true = false ∧ l.tail.length ≤ 1)
    · rw [if_pos hc] at h
      obtain ⟨h1, h2, h3, h4⟩ := hc
      have h5 : l.tail.head? ≠ some 48 := fun e => by have := (h4 e).1; cases this
      have := num_pos (l := l.tail) (by simpa using h3) (by intro e; rw [e] at h1; simp at h1) h5
      simp at h
      omega
    · rw [if_neg hc] at h; cases h
  · unfold readM at h
    by_cases hc : 1 ≤ l.length ∧ l.length ≤ 12 ∧ l.all isDig = true ∧ (l.head? = some 48 → false = false ∧ l.length ≤ 1)
    · rw [if_pos hc] at h
      obtain ⟨h1, h2, h3, h4⟩ := hc
      simp at h
      rw [← h, Int.toNat_natCast]
      refine (digs_of l (by simpa using h3) (by intro e; rw [e] at h1; simp at h1) ?_).symm
      by_cases h5 : l.head? = some 48
      · exact .inr (by have := (h4 h5).2; omega)
      · exact .inl h5
    · rw [if_neg hc] at h; cases h

/-- A byte more ahead of the first word. -/
def pushW (c : UInt8) : List (List UInt8) → List (List UInt8)
  | [] => [[c]]
  | w :: ws => (c :: w) :: ws
/-- A line parted at each byte b. -/
def splitB (b : UInt8) : List UInt8 → List (List UInt8)
  | [] => [[]]
  | c :: r => if c = b then [] :: splitB b r else pushW c (splitB b r)
theorem pushW_ne (c : UInt8) (l : List (List UInt8)) : pushW c l ≠ [] := by cases l <;> simp [pushW]
theorem splitB_hit (b : UInt8) (r : List UInt8) : splitB b (b :: r) = [] :: splitB b r := by simp [splitB]
theorem splitB_miss {b c : UInt8} (h : c ≠ b) (r : List UInt8) : splitB b (c :: r) = pushW c (splitB b r) := by simp [splitB, h]
theorem splitB_ne (b : UInt8) (l : List UInt8) : splitB b l ≠ [] := by
  cases l with
  | nil => simp [splitB]
  | cons c r =>
    by_cases h : c = b
    · subst h; rw [splitB_hit]; simp
    · rw [splitB_miss h]; exact pushW_ne _ _
theorem splitB_plain (b : UInt8) (w : List UInt8) (h : b ∉ w) : splitB b w = [w] := by
  induction w with
  | nil => rfl
  | cons c r ih =>
    simp only [List.mem_cons, not_or] at h
    rw [splitB_miss (fun e => h.1 e.symm), ih h.2]; rfl
theorem splitB_cut (b : UInt8) (w r : List UInt8) (h : b ∉ w) : splitB b (w ++ b :: r) = w :: splitB b r := by
  induction w with
  | nil => exact splitB_hit b r
  | cons c t ih =>
    simp only [List.mem_cons, not_or] at h
    rw [List.cons_append, splitB_miss (fun e => h.1 e.symm), ih h.2]; rfl
/-- Words joined by a text. -/
def joinW (s : List UInt8) : List (List UInt8) → List UInt8
  | [] => []
  | [w] => w
  | w :: v :: r => w ++ s ++ joinW s (v :: r)
theorem joinW_cons (s w : List UInt8) {r : List (List UInt8)} (h : r ≠ []) : joinW s (w :: r) = w ++ s ++ joinW s r := by
  cases r with
  | nil => exact absurd rfl h
  | cons v r => rfl
theorem joinW_snoc (s w : List UInt8) (r : List (List UInt8)) : joinW s (r ++ [w]) = if r = [] then w else joinW s r ++ s ++ w := by
  induction r with
  | nil => rfl
  | cons v r ih =>
    rw [if_neg (by simp), List.cons_append, joinW_cons _ _ (by simp), ih]
    by_cases hr : r = []
    · subst hr; simp [joinW]
    · rw [if_neg hr, joinW_cons _ _ hr]; simp
theorem joinW_push (s : List UInt8) (c : UInt8) {l : List (List UInt8)} (h : l ≠ []) : joinW s (pushW c l) = c :: joinW s l := by
  cases l with
  | nil => exact absurd rfl h
  | cons w ws =>
    cases ws with
    | nil => rfl
    | cons v u => simp [pushW, joinW]
theorem splitB_join (b : UInt8) (l : List UInt8) : joinW [b] (splitB b l) = l := by
  induction l with
  | nil => rfl
  | cons c r ih =>
    by_cases h : c = b
    · subst h
      rw [splitB_hit, joinW_cons _ _ (splitB_ne c r), ih]; rfl
    · rw [splitB_miss h, joinW_push _ _ (splitB_ne b r), ih]
/-- A text parted at each semicolon with a blank behind it. -/
def split2 : List UInt8 → List (List UInt8)
  | [] => [[]]
  | [c] => [[c]]
  | c :: d :: r => if c = 59 ∧ d = 32 then [] :: split2 r else pushW c (split2 (d :: r))
theorem split2_hit (r : List UInt8) : split2 (59 :: 32 :: r) = [] :: split2 r := by simp [split2]
theorem split2_miss {c d : UInt8} (h : ¬ (c = 59 ∧ d = 32)) (r : List UInt8) : split2 (c :: d :: r) = pushW c (split2 (d :: r)) := by rw [split2, if_neg h]
theorem split2_ne (l : List UInt8) : split2 l ≠ [] := by
  match l with
  | [] => simp [split2]
  | [c] => simp [split2]
  | c :: d :: r =>
    by_cases h : c = 59 ∧ d = 32
    · rw [h.1, h.2, split2_hit]; simp
    · rw [split2_miss h]; exact pushW_ne _ _
theorem split2_plain (w : List UInt8) (h : 59 ∉ w) : split2 w = [w] := by
  induction w with
  | nil => rfl
  | cons c r ih =>
    simp only [List.mem_cons, not_or] at h
    cases r with
    | nil => rfl
    | cons d r => rw [split2_miss (fun e => h.1 e.1.symm), ih h.2]; rfl
theorem split2_cut (w r : List UInt8) (h : 59 ∉ w) : split2 (w ++ 59 :: 32 :: r) = w :: split2 r := by
  induction w with
  | nil => exact split2_hit r
  | cons c t ih =>
    simp only [List.mem_cons, not_or] at h
    have h2 := ih h.2
    cases t with
    | nil =>
      rw [List.nil_append] at h2
      rw [List.cons_append, List.nil_append, split2_miss (fun e => h.1 e.1.symm), h2]; rfl
    | cons d t =>
      rw [List.cons_append] at h2
      rw [List.cons_append, List.cons_append, split2_miss (fun e => h.1 e.1.symm), h2]; rfl
theorem split2_words {ws : List (List UInt8)} (hne : ws ≠ []) (h : ∀ w ∈ ws, 59 ∉ w) : split2 (joinW [59, 32] ws) = ws := by
  induction ws with
  | nil => exact absurd rfl hne
  | cons w r ih =>
    by_cases hr : r = []
    · subst hr
      exact split2_plain w (h w (by simp))
    · rw [joinW_cons _ _ hr, List.append_assoc]
      show split2 (w ++ 59 :: 32 :: joinW [59, 32] r) = _
      rw [split2_cut w _ (h w (by simp)), ih hr (fun v hv => h v (by simp [hv]))]
theorem split2_join (l : List UInt8) : joinW [59, 32] (split2 l) = l := by
  obtain ⟨n, hn⟩ : ∃ n, l.length ≤ n := ⟨_, Nat.le_refl _⟩
  induction n generalizing l with
  | zero => have := List.length_eq_zero_iff.1 (Nat.le_zero.1 hn); subst this; rfl
  | succ n ih =>
    match l with
    | [] => rfl
    | [c] => rfl
    | c :: d :: r =>
      simp only [List.length_cons] at hn
      by_cases h : c = 59 ∧ d = 32
      · rw [h.1, h.2, split2_hit, joinW_cons _ _ (split2_ne r), ih r (by omega)]; rfl
      · rw [split2_miss h, joinW_push _ _ (split2_ne _), ih (d :: r) (by simp; omega)]
end Go.Proofs.YtoccbmmjcbjacaaDoor
