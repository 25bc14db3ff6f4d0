/- Instructions and programs on paper: which hold, how they are written and read back; no program is named here. -/
import Derived.Test.YtoccbmmjcbjacaaDoorFb
namespace Go.Proofs.YtoccbmmjcbjacaaDoor

structure Ins where
  op : Int
  a : Int
  b : Int
deriving DecidableEq
def inI (x lo hi : Int) : Bool := decide (lo ≤ x) && decide (x ≤ hi)
theorem inI_iff {x lo hi : Int} : inI x lo hi = true ↔ lo ≤ x ∧ x ≤ hi := by simp [inI]
def leashB (n : Int) : Bool := inI n (-1) 59
/-- Which instructions are valid. -/
def insB (i : Ins) : Bool :=
  if i.op = 0 then inI i.a 0 90 && decide (i.b = 0)
  else if i.op = 1 ∨ i.op = 2 ∨ i.op = 9 then leashB i.a && decide (i.b = 0)
  else if i.op = 3 then leashB i.a && inI i.b 0 1000
  else if i.op = 4 then leashB i.a && inI i.b 0 999
  else if i.op = 5 then inI i.a 0 12 && decide (i.b = 0)
  else if i.op = 6 ∨ i.op = 7 then inI i.a 0 7 && inI i.b 0 7
  else if i.op = 8 then inI i.a 0 7 && decide (i.b = 0)
  else if i.op = 10 then leashB i.a && inI i.b 1 9
  else false
def progB (l : List Ins) : Bool := l.all insB && decide (l.length ≤ 12)
def twoB (op : Int) : Bool := decide (op = 3) || decide (op = 4) || decide (op = 6) || decide (op = 7) || decide (op = 10)
def nameN : Nat → List UInt8
  | 0 => [101, 110, 100]
  | 1 => [101, 114, 114]
  | 2 => [119, 97, 105, 116]
  | 3 => [115, 108, 101, 101, 112]
  | 4 => [99, 97, 110, 99, 101, 108]
  | 5 => [105, 102]
  | 6 => [103, 111]
  | 7 => [116, 114, 121]
  | 8 => [106, 111, 105, 110]
  | 9 => [99, 104, 105, 108, 100]
  | _ => [107, 101, 121]
theorem name_noblank (n : Nat) : (32 : UInt8) ∉ nameN n := by unfold nameN; split <;> decide
theorem name_nosemi (n : Nat) : (59 : UInt8) ∉ nameN n := by unfold nameN; split <;> decide
theorem name_inj : ∀ i j : Fin 11, nameN i.1 = nameN j.1 → i = j := by decide
def itW : List UInt8 := [105, 116]
def wordA (a : Int) : List UInt8 := if a < 0 then itW else intS a
/-- The words of an instruction. -/
def wordsI (i : Ins) : List (List UInt8) := if twoB i.op = true then [nameN i.op.toNat, wordA i.a, intS i.b] else [nameN i.op.toNat, wordA i.a]
def showI (i : Ins) : List UInt8 := joinW [32] (wordsI i)
def showP (l : List Ins) : List UInt8 := if progB l = true then joinW [59, 32] (l.map showI) else []
def fitsW (w : List (List UInt8)) (op : Nat) : Bool := decide (nameN op = w.headD []) && (if twoB op = true then decide (w.length = 3) else decide (w.length = 2))
def readA (w : List UInt8) : Option Int := if w = itW then some (-1) else match readN w with
  | some v => if 0 ≤ v then some v else none
  | none => none
def fillI (op : Nat) (w : List (List UInt8)) : Option Ins := match readA (w.getD 1 []) with
  | none => none
  | some a => match (if twoB op = true then readN (w.getD 2 []) else some 0) with
    | none => none
    | some b => if insB ⟨op, a, b⟩ = true then some ⟨op, a, b⟩ else none
def readW (w : List (List UInt8)) : Option Ins := match (List.range 11).find? (fitsW w) with
  | none => none
  | some op => fillI op w
def readI (s : List UInt8) : Option Ins := readW (splitB 32 s)
def readL : List (List UInt8) → Option (List Ins)
  | [] => some []
  | w :: ws => match readI w with
    | none => none
    | some i => match readL ws with
      | none => none
      | some l => some (i :: l)
def readP (s : List UInt8) : Option (List Ins) := if s = [] then some [] else match readL (split2 s) with
  | none => none
  | some l => if l.length ≤ 12 then some l else none

/-- A valid instruction's operation is one of the eleven. -/
theorem op_lt {i : Ins} (h : insB i = true) : 0 ≤ i.op ∧ i.op ≤ 10 := by
  unfold insB at h
  repeat' split at h
  all_goals first | omega | (cases h)
theorem b_ge {i : Ins} (h : insB i = true) : 0 ≤ i.b ∧ i.b ≤ 1000 := by
  unfold insB at h
  repeat' split at h
  all_goals first | (cases h; done) | (simp only [Bool.and_eq_true, leashB, inI_iff, decide_eq_true_eq] at h; omega)
theorem b_zero {i : Ins} (h : insB i = true) (ht : twoB i.op = false) : i.b = 0 := by
  unfold insB at h
  simp only [twoB, Bool.or_eq_false_iff, decide_eq_false_iff_not] at ht
  repeat' split at h
  all_goals first | (cases h; done) | omega | (simp only [Bool.and_eq_true, decide_eq_true_eq] at h; exact h.2)
theorem a_ge {i : Ins} (h : insB i = true) : -1 ≤ i.a ∧ i.a ≤ 90 := by
  unfold insB at h
  repeat' split at h
  all_goals first | (cases h; done) | (simp only [Bool.and_eq_true, leashB, inI_iff, decide_eq_true_eq] at h; omega)
theorem digs_no {c : UInt8} (h : isDig c = false) (n : Nat) : c ∉ digs n := fun hc => by rw [digs_all n c hc] at h; cases h
theorem wordA_no {c : UInt8} (h : isDig c = false) (h2 : c ∉ itW) (a : Int) : c ∉ wordA a := by
  unfold wordA
  split
  · exact h2
  · unfold intS; rw [if_neg (by omega)]; exact digs_no h _
theorem intS_no {c : UInt8} (h : isDig c = false) {b : Int} (hb : 0 ≤ b) : c ∉ intS b := by
  unfold intS; rw [if_neg (by omega)]; exact digs_no h _
theorem wordsI_split {i : Ins} (h : insB i = true) : splitB 32 (showI i) = wordsI i := by
  have h1 := name_noblank i.op.toNat
  have h2 : (32 : UInt8) ∉ wordA i.a := wordA_no (by decide) (by decide) _
  have h3 : (32 : UInt8) ∉ intS i.b := intS_no (by decide) (b_ge h).1
  unfold showI wordsI
  split
  · show splitB 32 (nameN i.op.toNat ++ [32] ++ (wordA i.a ++ [32] ++ intS i.b)) = _
    rw [List.append_assoc, List.append_assoc]
    show splitB 32 (nameN i.op.toNat ++ 32 :: (wordA i.a ++ 32 :: intS i.b)) = _
    rw [splitB_cut _ _ _ h1, splitB_cut _ _ _ h2, splitB_plain _ _ h3]
  · show splitB 32 (nameN i.op.toNat ++ [32] ++ wordA i.a) = _
    rw [List.append_assoc]
    show splitB 32 (nameN i.op.toNat ++ 32 :: wordA i.a) = _
    rw [splitB_cut _ _ _ h1, splitB_plain _ _ h2]
theorem readA_word {a : Int} (h1 : -1 ≤ a) (h2 : a < 1000000000000) : readA (wordA a) = some a := by
  unfold readA wordA
  by_cases h : a < 0
  · rw [if_pos h, if_pos rfl]
    rw [show a = -1 from by omega]
  · rw [if_neg h, intS, if_neg h]
    have hne : digs a.toNat ≠ itW := fun e => by
      have : (105 : UInt8) ∈ digs a.toNat := by rw [e]; decide
      exact digs_no (by decide) _ this
    rw [if_neg hne, readN_digs _ (by omega)]
    simp only
    rw [if_pos (by omega), Int.toNat_of_nonneg (by omega)]
theorem fits_find {w : List (List UInt8)} {op : Nat} (ho : op < 11) (h : fitsW w op = true) : (List.range 11).find? (fitsW w) = some op := by
  cases hf : (List.range 11).find? (fitsW w) with
  | none => exact absurd h (by have := List.find?_eq_none.1 hf op (by simpa using ho); simpa using this)
  | some k =>
    have h1 := List.find?_some hf
    have h2 := List.mem_of_find?_eq_some hf
    have hk : k < 11 := by simpa using h2
    simp only [fitsW, Bool.and_eq_true, decide_eq_true_eq] at h h1
    have := name_inj ⟨k, hk⟩ ⟨op, ho⟩ (by rw [h1.1, h.1])
    injection this with e
    rw [e]
theorem readI_show {i : Ins} (h : insB i = true) : readI (showI i) = some i := by
  have ho := op_lt h
  have ha := a_ge h
  have hb := b_ge h
  have hop : ((i.op.toNat : Nat) : Int) = i.op := Int.toNat_of_nonneg ho.1
  unfold readI
  rw [wordsI_split h]
  unfold readW
  have hfit : fitsW (wordsI i) i.op.toNat = true := by
    unfold fitsW
    rw [hop]
    unfold wordsI
    by_cases ht : twoB i.op = true
    · simp [ht]
    · simp [ht]
  rw [fits_find (by omega) hfit]
  simp only
  unfold fillI
  rw [hop]
  have hA : (wordsI i).getD 1 [] = wordA i.a := by unfold wordsI; split <;> rfl
  rw [hA, readA_word ha.1 (by omega)]
  simp only
  by_cases ht : twoB i.op = true
  · have hB : (wordsI i).getD 2 [] = intS i.b := by unfold wordsI; rw [if_pos ht]; rfl
    rw [if_pos ht, hB, intS, if_neg (by omega), readN_digs _ (by omega), Int.toNat_of_nonneg hb.1]
    simp only
    rw [if_pos h]
  · rw [if_neg ht]
    simp only
    have hz := b_zero h (by simpa using ht)
    have e : (⟨i.op, i.a, 0⟩ : Ins) = i := by rw [← hz]
    rw [e, if_pos h]
theorem readA_back {w : List UInt8} {a : Int} (h : readA w = some a) : wordA a = w := by
  unfold readA at h
  by_cases hw : w = itW
  · rw [if_pos hw] at h
    injection h with h
    subst h
    rw [hw]; rfl
  · rw [if_neg hw] at h
    cases hr : readN w with
    | none => rw [hr] at h; cases h
    | some v =>
      rw [hr] at h
      simp only at h
      by_cases hv : 0 ≤ v
      · rw [if_pos hv] at h
        injection h with h
        subst h
        unfold wordA intS
        rw [if_neg (by omega), if_neg (by omega)]
        exact (readN_back hr hv).symm
      · rw [if_neg hv] at h; cases h
theorem readI_back {s : List UInt8} {i : Ins} (h : readI s = some i) : insB i = true ∧ showI i = s := by
  unfold readI readW at h
  have hj := splitB_join 32 s
  obtain ⟨w, hw⟩ : ∃ w, w = splitB 32 s := ⟨_, rfl⟩
  rw [← hw] at h hj
  cases hf : (List.range 11).find? (fitsW w) with
  | none => rw [hf] at h; cases h
  | some op =>
    rw [hf] at h
    simp only at h
    have h1 := List.find?_some hf
    simp only [fitsW, Bool.and_eq_true, decide_eq_true_eq] at h1
    unfold fillI at h
    cases ha : readA (w.getD 1 []) with
    | none => rw [ha] at h; cases h
    | some a =>
      rw [ha] at h
      simp only at h
      have hA := readA_back ha
      by_cases ht : twoB (op : Int) = true
      · rw [if_pos ht] at h
        have hl : w.length = 3 := by have := h1.2; rw [if_pos ht] at this; simpa using this
        cases hb : readN (w.getD 2 []) with
        | none => rw [hb] at h; cases h
        | some b =>
          rw [hb] at h
          simp only at h
          by_cases hi : insB ⟨op, a, b⟩ = true
          · rw [if_pos hi] at h
            injection h with h
            subst h
            refine ⟨hi, ?_⟩
            have hB := readN_back hb (b_ge hi).1
            match w, hl with
            | [u, v, x], _ =>
              simp only [List.headD_cons, List.getD_cons_succ, List.getD_cons_zero] at h1 hA hB
              rw [← hj]
              unfold showI wordsI
              rw [if_pos ht]
              simp only
              rw [hA, Int.toNat_natCast, h1.1, intS, if_neg (by have := (b_ge hi).1; simp only at this; omega), ← hB]
          · rw [if_neg hi] at h; cases h
      · rw [if_neg ht] at h
        have hl : w.length = 2 := by have := h1.2; rw [if_neg ht] at this; simpa using this
        simp only at h
        by_cases hi : insB ⟨op, a, 0⟩ = true
        · rw [if_pos hi] at h
          injection h with h
          subst h
          refine ⟨hi, ?_⟩
          match w, hl with
          | [u, v], _ =>
            simp only [List.headD_cons, List.getD_cons_succ, List.getD_cons_zero] at h1 hA
            rw [← hj]
            unfold showI wordsI
            rw [if_neg ht]
            simp only
            rw [hA, Int.toNat_natCast, h1.1]
        · rw [if_neg hi] at h; cases h
theorem showI_nosemi {i : Ins} (h : insB i = true) : (59 : UInt8) ∉ showI i := by
  have h1 := name_nosemi i.op.toNat
  have h2 : (59 : UInt8) ∉ wordA i.a := wordA_no (by decide) (by decide) _
  have h3 : (59 : UInt8) ∉ intS i.b := intS_no (by decide) (b_ge h).1
  unfold showI wordsI
  split
  · simp [joinW, h1, h2, h3]
  · simp [joinW, h1, h2]
theorem showI_ne (i : Ins) : showI i ≠ [] := by
  unfold showI wordsI
  split <;> simp [joinW]
theorem readL_show (l : List Ins) (h : ∀ i ∈ l, insB i = true) : readL (l.map showI) = some l := by
  induction l with
  | nil => rfl
  | cons i r ih =>
    simp only [List.map_cons, readL]
    rw [readI_show (h i (by simp)), ih (fun j hj => h j (by simp [hj]))]
theorem readL_back {ws : List (List UInt8)} {l : List Ins} (h : readL ws = some l) : (∀ i ∈ l, insB i = true) ∧ l.map showI = ws := by
  induction ws generalizing l with
  | nil => simp only [readL] at h; injection h with h; subst h; simp
  | cons w r ih =>
    simp only [readL] at h
    cases hi : readI w with
    | none => rw [hi] at h; cases h
    | some i =>
      rw [hi] at h
      simp only at h
      cases hr : readL r with
      | none => rw [hr] at h; cases h
      | some t =>
        rw [hr] at h
        simp only at h
        injection h with h
        subst h
        have h1 := readI_back hi
        have h2 := ih hr
        refine ⟨fun j hj => ?_, by rw [List.map_cons, h1.2, h2.2]⟩
        rcases List.mem_cons.1 hj with rfl | hj
        · exact h1.1
        · exact h2.1 j hj
theorem progB_iff {l : List Ins} : progB l = true ↔ (∀ i ∈ l, insB i = true) ∧ l.length ≤ 12 := by simp [progB]
theorem showP_nil {l : List Ins} (h : progB l = true) : showP l = [] ↔ l = [] := by
  unfold showP
  rw [if_pos h]
  constructor
  · intro e
    cases l with
    | nil => rfl
    | cons i r =>
      exfalso
      cases r with
      | nil => exact showI_ne i e
      | cons j r =>
        simp only [List.map_cons, joinW] at e
        simp at e
  · rintro rfl; rfl
/-- What is written is read back. -/
theorem readP_show {l : List Ins} (h : progB l = true) : readP (showP l) = some l := by
  have hp := progB_iff.1 h
  unfold readP
  by_cases hl : l = []
  · subst hl; rw [if_pos ((showP_nil h).2 rfl)]
  · rw [if_neg (fun e => hl ((showP_nil h).1 e))]
    unfold showP
    rw [if_pos h, split2_words (by simpa using hl) (by
      intro w hw
      obtain ⟨i, hi, rfl⟩ := List.mem_map.1 hw
      exact showI_nosemi (hp.1 i hi)), readL_show l hp.1]
    simp only
    rw [if_pos hp.2]
/-- What is read is written so. -/
theorem readP_back {s : List UInt8} {l : List Ins} (h : readP s = some l) : progB l = true ∧ showP l = s := by
  unfold readP at h
  by_cases hs : s = []
  · rw [if_pos hs] at h
    injection h with h
    subst h
    exact ⟨rfl, by rw [hs]; rfl⟩
  · rw [if_neg hs] at h
    cases hr : readL (split2 s) with
    | none => rw [hr] at h; cases h
    | some t =>
      rw [hr] at h
      simp only at h
      by_cases hl : t.length ≤ 12
      · rw [if_pos hl] at h
        injection h with h
        subst h
        have h1 := readL_back hr
        have hp : progB t = true := progB_iff.2 ⟨h1.1, hl⟩
        refine ⟨hp, ?_⟩
        unfold showP
        rw [if_pos hp, h1.2, split2_join]
      · rw [if_neg hl] at h; cases h
end Go.Proofs.YtoccbmmjcbjacaaDoor
