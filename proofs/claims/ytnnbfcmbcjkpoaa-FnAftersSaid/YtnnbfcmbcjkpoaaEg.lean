/- FnAfters on paper: what each operation makes of the records that the law keeps, and of the afters; no program is named here. -/
import Derived.Test.YtnnbfcmbcjkpoaaCj
namespace Go.Proofs.Ytnnbfcmbcjkpoaa
open Go.RowKit Go.Sort

/-- What the law keeps of a registered function. -/
structure Ent where
  node : Int
  st : Int
  slot : Int
  age : Int
def Ent.hd (e : Ent) : Int × Int := (e.slot, e.age)
def liveE (e : Ent) : Bool := decide (e.st < 2)
def aftE (k : Nat) (e : Ent) : Aft := ⟨e.slot, e.age, e.node, (k : Int), decide (e.st = 1)⟩
/-- The functions that are still registered. -/
def live : Nat → List Ent → List Aft
  | _, [] => []
  | k, e :: r => if liveE e = true then aftE k e :: live (k + 1) r else live (k + 1) r
theorem live_append : ∀ (A B : List Ent) (k : Nat), live k (A ++ B) = live k A ++ live (k + A.length) B
  | [], B, k => by simp [live]
  | e :: r, B, k => by
    have ih := live_append r B (k + 1)
    simp only [List.cons_append, live, List.length_cons]
    rw [ih, show k + 1 + r.length = k + (r.length + 1) from by omega]
    split <;> simp
theorem live_split (E : List Ent) {j : Nat} (hj : j < E.length) : live 0 E = live 0 (E.take j) ++ ((if liveE E[j] = true then [aftE j E[j]] else []) ++ live (j + 1) (E.drop (j + 1))) := by
  have e : E = E.take j ++ (E[j] :: E.drop (j + 1)) := by rw [← List.drop_eq_getElem_cons hj, List.take_append_drop]
  conv => lhs; rw [e]
  rw [live_append]
  have hl : (E.take j).length = j := by simp; omega
  rw [hl, Nat.zero_add]
  simp only [live]
  split <;> simp
theorem live_mem : ∀ (E : List Ent) (k : Nat) (x : Aft), x ∈ live k E → ∃ j, ∃ h : j < E.length, liveE E[j] = true ∧ x = aftE (k + j) E[j]
  | [], _, x, h => by simp [live] at h
  | e :: r, k, x, h => by
    simp only [live] at h
    have key : x ∈ live (k + 1) r → ∃ j, ∃ h : j < (e :: r).length, liveE (e :: r)[j] = true ∧ x = aftE (k + j) (e :: r)[j] := fun h' => by
      obtain ⟨j, hj, h1, h2⟩ := live_mem r (k + 1) x h'
      exact ⟨j + 1, by simpa using hj, by simpa using h1, by rw [h2, show k + 1 + j = k + (j + 1) from by omega]; rfl⟩
    split at h
    · rename_i hl
      rcases List.mem_cons.1 h with rfl | h'
      · exact ⟨0, by simp, hl, rfl⟩
      · exact key h'
    · exact key h
/-- How many are still registered. -/
def liveN (E : List Ent) : Nat := (E.filter liveE).length
theorem live_len : ∀ (E : List Ent) (k : Nat), (live k E).length = liveN E
  | [], _ => rfl
  | e :: r, k => by
    have := live_len r (k + 1)
    unfold liveN at this ⊢
    simp only [live, List.filter_cons]
    split <;> simp [this]
def queueE (m : Int) (e : Ent) : Ent := if e.node = m ∧ e.st = 0 then ⟨e.node, 1, e.slot, e.age⟩ else e
theorem queueE_live (m : Int) (e : Ent) : liveE (queueE m e) = liveE e := by
  unfold queueE liveE
  split
  · rename_i h; simp [h.2]
  · rfl
theorem queue_live (m : Int) : ∀ (E : List Ent) (k : Nat), (∀ e ∈ E, 0 ≤ e.st) → live k (E.map (queueE m)) = (live k E).map (queue1 m)
  | [], _, _ => rfl
  | e :: r, k, h => by
    have ih := queue_live m r (k + 1) (fun x hx => h x (.tail _ hx))
    have h0 := h e (.head _)
    simp only [List.map_cons, live, queueE_live m e]
    split
    · rename_i hl
      rw [List.map_cons, ih]
      congr 1
      unfold queueE queue1 aftE
      have h2 : e.st < 2 := by simpa [liveE] using hl
      by_cases h3 : e.node = m
      · by_cases h4 : e.st = 0
        · simp [h3, h4]
        · have h5 : e.st = 1 := by omega
          simp [h3, h5]
      · simp [h3]
    · exact ih
def setSt (E : List Ent) (j : Nat) (s : Int) : List Ent := E.modify j fun e => ⟨e.node, s, e.slot, e.age⟩
theorem setSt_len (E : List Ent) (j : Nat) (s : Int) : (setSt E j s).length = E.length := by simp [setSt]
theorem setSt_at (E : List Ent) (j : Nat) (s : Int) {i : Nat} (hi : i < E.length) : (setSt E j s)[i]'(by rw [setSt_len]; exact hi) = if j = i then ⟨E[i].node, s, E[i].slot, E[i].age⟩ else E[i] := by
  simp [setSt, List.getElem_modify]
/-- Where the live record j stands among the live ones. -/
def posE (E : List Ent) (j : Nat) : Nat := (live 0 (E.take j)).length
theorem pos_at (E : List Ent) {j : Nat} (hj : j < E.length) (hl : liveE E[j] = true) : ∃ h : posE E j < (live 0 E).length, (live 0 E)[posE E j] = aftE j E[j] := by
  have e := live_split E hj
  rw [if_pos hl] at e
  have h : posE E j < (live 0 E).length := by rw [e]; unfold posE; simp
  refine ⟨h, ?_⟩
  have h1 := congrArg (fun l => l[posE E j]?) e
  simp only [List.getElem?_eq_getElem h] at h1
  rw [List.getElem?_append_right (by unfold posE; exact Nat.le_refl _)] at h1
  simp [posE] at h1
  exact h1
theorem pos_before (E : List Ent) {j p : Nat} (hj : j < E.length) (hp : p < posE E j) : ∃ h : p < (live 0 E).length, ∃ i, ∃ _ : i < j, ∃ hi : i < E.length, liveE E[i] = true ∧ (live 0 E)[p] = aftE i E[i] := by
  have e := live_split E hj
  have h : p < (live 0 E).length := by rw [e, List.length_append]; unfold posE at hp; omega
  have hm : (live 0 E)[p] ∈ live 0 (E.take j) := by
    have h1 := congrArg (fun l => l[p]?) e
    simp only [List.getElem?_eq_getElem h] at h1
    rw [List.getElem?_append_left hp] at h1
    exact List.mem_of_getElem? h1.symm
  obtain ⟨i, hi, h1, h2⟩ := live_mem _ _ _ hm
  have hij : i < j := by simp at hi; omega
  refine ⟨h, i, hij, by omega, ?_, ?_⟩
  · simpa using h1
  · rw [h2]; simp
theorem pos_erase (E : List Ent) {j : Nat} (hj : j < E.length) (hl : liveE E[j] = true) {s : Int} (hs : 2 ≤ s) : live 0 (setSt E j s) = (live 0 E).take (posE E j) ++ (live 0 E).drop (posE E j + 1) := by
  have e := live_split E hj
  rw [if_pos hl] at e
  have hj' : j < (setSt E j s).length := by rw [setSt_len]; exact hj
  have e' := live_split (setSt E j s) hj'
  have hat : (setSt E j s)[j] = ⟨E[j].node, s, E[j].slot, E[j].age⟩ := by rw [setSt_at E j s hj, if_pos rfl]
  have hd : liveE ((setSt E j s)[j]) = false := by rw [hat]; simp [liveE]; omega
  rw [hd] at e'
  simp only [Bool.false_eq_true, if_false, List.nil_append] at e'
  have t1 : (setSt E j s).take j = E.take j := by
    apply List.ext_getElem (by simp [setSt_len])
    intro i h1 h2
    simp only [List.getElem_take]
    have hi : i < E.length := by simp at h2; omega
    have hij : j ≠ i := by simp at h2; omega
    rw [setSt_at E j s hi, if_neg hij]
  have t2 : (setSt E j s).drop (j + 1) = E.drop (j + 1) := by
    apply List.ext_getElem (by simp [setSt_len])
    intro i h1 h2
    simp only [List.getElem_drop]
    have hi : j + 1 + i < E.length := by simp at h2; omega
    rw [setSt_at E j s hi, if_neg (by omega)]
  rw [t1, t2] at e'
  rw [e', e]
  unfold posE
  rw [List.take_left' rfl]
  congr 1
  have key : ∀ (A B : List Aft) (x : Aft), List.drop (A.length + 1) (A ++ ([x] ++ B)) = B := by
    intro A B x
    rw [← List.append_assoc, List.drop_left' (by simp)]
  exact (key _ _ _).symm
/-- Slots: what a drop and a take make of them. -/
theorem count_set {l : List Bool} {k : Nat} (hk : k < l.length) (b : Bool) : ((((l.set k b).filter id).length : Nat) : Int) = ((l.filter id).length : Int) - (if l[k] = true then 1 else 0) + (if b = true then 1 else 0) := by
  have e1 : l = l.take k ++ (l[k] :: l.drop (k + 1)) := by rw [← List.drop_eq_getElem_cons hk, List.take_append_drop]
  have e2 : l.set k b = l.take k ++ (b :: l.drop (k + 1)) := by rw [List.set_eq_take_append_cons_drop, if_pos hk]
  rw [e2]
  conv => rhs; rw [show (l.filter id) = ((l.take k ++ (l[k] :: l.drop (k + 1))).filter id) from by rw [← e1]]
  simp only [List.filter_append, List.filter_cons, List.length_append, id]
  split <;> split <;> simp <;> omega
theorem used_eq {t : Slt} (h : slB t = true) : slUsed t = ((t.used.filter id).length : Int) := by
  unfold slUsed
  rw [usedIn_ok h]
  simp [cntT]
theorem slB_of {ages : List Int} {used : List Bool} (h1 : 1 ≤ ages.length) (h2 : ages.length ≤ 64) (h3 : used.length = ages.length) (h4 : ∀ k (h : k < ages.length), 0 ≤ ages[k] ∧ ages[k] ≤ 1000000) : slB ⟨ages, used⟩ = true := by
  refine slotsOk_good ⟨h1, h2, h3⟩ ages.length (Nat.le_refl _) ?_
  rw [List.all_eq_true]
  intro x hx
  rw [List.take_of_length_le (Nat.le_refl _)] at hx
  obtain ⟨k, hk, rfl⟩ := List.getElem_of_mem hx
  simp [ageOk]
  exact h4 k hk
/-- What it means to be held. -/
theorem holds_iff {t : Slt} (hb : slB t = true) (s a : Int) : slHolds t s a = true ↔ ∃ k : Nat, s = k ∧ t.used[k]? = some true ∧ t.ages[k]? = some a := by
  have hl := slB_len hb
  constructor
  · intro h
    obtain ⟨_, k, e, g1, g2, he, hu, _⟩ := holds_yes (show holdsB t.ages t.used s a = true from h)
    refine ⟨k, e, ?_, by rw [List.getElem?_eq_getElem g1, he]⟩
    have h2 : holdsB t.ages t.used s a = true := h
    simp only [holdsB, Bool.and_eq_true, e, Int.toNat_natCast] at h2
    have := h2.1.2
    rw [List.getElem?_eq_getElem g2]
    simpa [g2] using this
  · rintro ⟨k, rfl, h1, h2⟩
    obtain ⟨g1, e1⟩ := List.getElem?_eq_some_iff.1 h1
    obtain ⟨g2, e2⟩ := List.getElem?_eq_some_iff.1 h2
    show holdsB t.ages t.used k a = true
    simp only [holdsB, Bool.and_eq_true]
    refine ⟨⟨⟨hb, by simp⟩, by simp [g1, e1]⟩, by simp [g2, e2]⟩
/-- A held handle is dropped. -/
structure Dropd (t t' : Slt) (k : Nat) (a : Int) : Prop where
  ok : slB t' = true
  used : slUsed t' = slUsed t - 1
  ages : t'.ages = t.ages.set k (a + 1)
  uses : t'.used = t.used.set k false
theorem drop_is {t : Slt} (hb : slB t = true) {k : Nat} {a : Int} (h : slHolds t k a = true) (ha : a < 1000000) : Dropd t (dropST t k a) k a := by
  have hl := slB_len hb
  obtain ⟨k', e, h1, h2⟩ := (holds_iff hb _ _).1 h
  have e : k = k' := by omega
  subst e
  obtain ⟨g1, e1⟩ := List.getElem?_eq_some_iff.1 h1
  obtain ⟨g2, e2⟩ := List.getElem?_eq_some_iff.1 h2
  have hd : dropSB t k a = true := by simp [dropSB, h]; omega
  have et : dropST t k a = ⟨t.ages.set k (a + 1), t.used.set k false⟩ := by unfold dropST; rw [if_pos hb, if_pos hd]; simp
  have hok : slB ⟨t.ages.set k (a + 1), t.used.set k false⟩ = true := by
    refine slB_of (by simp; omega) (by simp; omega) (by simp; omega) ?_
    intro i hi
    rw [List.getElem_set]
    have ha0 := slotsOk_age (show slotsOkB t.ages t.used = true from hb) k g2
    split
    · omega
    · exact slotsOk_age (show slotsOkB t.ages t.used = true from hb) i (by simpa using hi)
  rw [et]
  refine ⟨hok, ?_, rfl, rfl⟩
  rw [used_eq hok, used_eq hb, count_set g1, if_pos e1]
  simp
/-- A free slot is taken. -/
theorem take_is {t : Slt} (hb : slB t = true) {k : Nat} (hf : freeO t = some k) : ∃ h : k < t.ages.length, takeSH t = ((k : Int), t.ages[k]) ∧ t.used[k]? = some false ∧ t.ages[k] ≠ 1000000 ∧ takeST t = ⟨t.ages, t.used.set k true⟩ ∧ slB (takeST t) = true ∧ slUsed (takeST t) = slUsed t + 1 := by
  have hl := slB_len hb
  have hf2 := hf
  unfold freeO at hf2
  rw [if_pos hb] at hf2
  have h2 := List.mem_of_find?_eq_some hf2
  rw [List.mem_range] at h2
  have h3 := List.find?_some hf2
  have hu : k < t.used.length := by omega
  rw [freeB_at h2 hu] at h3
  simp only [Bool.and_eq_true, Bool.not_eq_true', beq_eq_false_iff_ne] at h3
  have et : takeST t = ⟨t.ages, t.used.set k true⟩ := by unfold takeST; rw [if_pos hb, hf]
  have hok : slB ⟨t.ages, t.used.set k true⟩ = true := slB_of hl.1 hl.2.1 (by simp; omega) (fun i hi => slotsOk_age (show slotsOkB t.ages t.used = true from hb) i hi)
  refine ⟨h2, by unfold takeSH; rw [hf]; simp [h2], by rw [List.getElem?_eq_getElem hu, h3.1], h3.2, et, by rw [et]; exact hok, ?_⟩
  rw [et, used_eq hok, used_eq hb, count_set hu]
  simp [h3.1]
theorem filter_all {l : List Bool} (h : ∀ k (hk : k < l.length), l[k] = true) : (l.filter id).length = l.length := by
  rw [List.filter_eq_self.2]
  intro b hb
  obtain ⟨k, hk, rfl⟩ := List.getElem_of_mem hb
  exact h k hk
/-- Where every age is small, a slot can be taken exactly where not all are used. -/
theorem take_iff {t : Slt} (hb : slB t = true) (hs : ∀ k (h : k < t.ages.length), t.ages[k] < 1000000) : takeSB t = decide (slUsed t < (t.ages.length : Int)) := by
  have hl := slB_len hb
  rw [used_eq hb]
  rcases free_cases t hb with ⟨e, hn⟩ | ⟨k, hk, e, _, _⟩
  · have hall : ∀ i (hi : i < t.used.length), t.used[i] = true := by
      intro i hi
      have h1 := hn i (by omega)
      rw [freeB_at (by omega) hi] at h1
      have h2 : (t.ages[i]'(by omega) == 1000000) = false := by have := hs i (by omega); simp; omega
      rw [h2] at h1
      simpa using h1
    have hc := filter_all hall
    rw [hc, hl.2.2]
    simp [takeSB, e]
  · obtain ⟨_, _, hu, _, _, hok, hu1⟩ := take_is hb e
    have h1 : slUsed (takeST t) ≤ (t.ages.length : Int) := by
      rw [used_eq hok]
      have h2 := List.length_filter_le id (takeST t).used
      have h3 : (takeST t).used.length = t.ages.length := by rw [(take_is hb e).2.2.2.2.1]; simp; omega
      omega
    rw [hu1, used_eq hb] at h1
    have : ((t.used.filter id).length : Int) < (t.ages.length : Int) := by omega
    simp only [takeSB, e, Option.isSome_some]
    exact (decide_eq_true this).symm
end Go.Proofs.Ytnnbfcmbcjkpoaa
