/- All steps from one queued node, on paper: whoever is told has that node in its chain, and whoever has it is told; no program is named here. -/
import Derived.Test.YtlfbmjfbebbdlaaWc
namespace Go.Proofs.Ytlfbmjfbebbdlaa
open Go.RowKit

/-- That node has been told. -/
def TT (s : Spr) (m : Int) : Prop := 0 ≤ m ∧ s.told[m.toNat]? = some true
theorem tt_nat {s : Spr} {k : Nat} (h : k < s.told.length) : TT s (k : Int) ↔ s.told[k] = true := by
  unfold TT
  rw [show ((k : Int)).toNat = k from rfl, List.getElem?_eq_getElem h]
  simp
theorem tt_set {s : Spr} {x : Nat} (hx : x < s.told.length) (r : List Int) (m : Int) : TT ⟨s.told.set x true, r⟩ m ↔ TT s m ∨ m = x := by
  unfold TT
  simp only [List.getElem?_set]
  constructor
  · rintro ⟨h0, h⟩
    by_cases e : x = m.toNat
    · right; omega
    · rw [if_neg e] at h; exact .inl ⟨h0, h⟩
  · rintro (⟨h0, h⟩ | rfl)
    · refine ⟨h0, ?_⟩
      split
      · simp
      · exact h
    · refine ⟨by omega, ?_⟩
      rw [if_pos (by omega), if_pos hx]
theorem told_false {s : Spr} {k : Nat} (h : k < s.told.length) : toldAt s (k : Int) = false ↔ ¬ TT s (k : Int) := by
  rw [toldAt_nat h, tt_nat h]; simp
theorem nodup_len : ∀ (N : Nat) (l : List Int), l.Nodup → (∀ x ∈ l, 0 ≤ x ∧ x < N) → l.length ≤ N := by
  intro N
  induction N with
  | zero =>
    intro l _ h
    cases l with
    | nil => simp
    | cons x r => have := h x (by simp); omega
  | succ N ih =>
    intro l hd h
    by_cases hm : (N : Int) ∈ l
    · have h1 := ih (l.erase N) (hd.erase _) (fun x hx => by
        have hx' := (List.Nodup.mem_erase_iff hd).1 hx
        have := h x hx'.2
        have := hx'.1
        omega)
      rw [List.length_erase_of_mem hm] at h1
      omega
    · have := ih l hd (fun x hx => by
        have := h x hx
        have : x ≠ N := fun e => hm (e ▸ hx)
        omega)
      omega
theorem kidsFrom_ge {n : Int} : ∀ (xs : List Nd) (i : Nat), ∀ m ∈ kidsFrom n i xs, (i : Int) ≤ m := fun xs i m hm => by
  obtain ⟨k, _, rfl, _⟩ := (kidsFrom_mem xs i).1 hm; omega
theorem kidsFrom_nodup {n : Int} : ∀ (xs : List Nd) (i : Nat), (kidsFrom n i xs).Nodup := by
  intro xs
  induction xs with
  | nil => intro i; simp [kidsFrom]
  | cons x r ih =>
    intro i
    simp only [kidsFrom]
    split
    · refine List.nodup_cons.2 ⟨fun h => ?_, ih _⟩
      have := kidsFrom_ge r (i + 1) _ h
      omega
    · exact ih _
theorem belowL_nodup (t : List Nd) (n : Int) : (belowL t n).Nodup := by
  unfold belowL kidsL
  split
  · exact (kidsFrom_nodup t 0).filter _
  · simp
/-- What is in a chain lies at most at its beginning. -/
theorem chain_le {t : List Nd} (o : TreeP t) {i x : Int} (hl : i < t.length) (hx : x ∈ chainOf t i) : x ≤ i := by
  have h0 : 0 ≤ i := by
    rcases Int.lt_or_le i 0 with h | h
    · rw [chain_neg t h] at hx; cases hx
    · exact h
  exact (line_mem o (i.toNat + 1) i (by omega) hl x ((chain_line o (i.toNat + 1) i (by omega) hl).1.subset hx)).2

structure Inv (t : List Nd) (n : Int) (s : Spr) : Prop where
  ok : SprP t s
  sub : ∀ m, (m ∈ s.work ∨ TT s m) → n ∈ chainOf t m
  clo : ∀ m, TT s m → ∀ c ∈ belowL t m, TT s c ∨ c ∈ s.work
  has : TT s n ∨ n ∈ s.work
  nod : s.work.Nodup
  new : ∀ m ∈ s.work, ¬ TT s m
  par : ∀ m, (m ∈ s.work ∨ TT s m) → m = n ∨ TT s (ndAt t m).up
theorem Inv.len {t : List Nd} {n : Int} {s : Spr} (h : Inv t n s) : s.work.length ≤ 60 := by
  have := nodup_len t.length s.work h.nod (fun x hx => by
    obtain ⟨i, hi, rfl⟩ := List.getElem_of_mem hx
    exact h.ok.work i hi)
  have := h.ok.tree.len
  omega
/-- A step from such a spread tells a new node and leaves such a spread. -/
theorem Inv.step {t : List Nd} {n : Int} {s : Spr} (h : Inv t n s) (hw : s.work ≠ []) : stuckB t s = false ∧ Inv t n (stepP t s).1 := by
  rcases e : s.work with _ | ⟨x, r⟩
  · exact absurd e hw
  have hL := h.len
  have hx := h.ok.work 0 (by rw [e]; simp)
  have hx0 : s.work[0]'(by rw [e]; simp) = x := by simp [e]
  rw [hx0] at hx
  obtain ⟨j, rfl⟩ := Int.eq_ofNat_of_zero_le hx.1
  have hj : j < s.told.length := by have := h.ok.told; omega
  have hjt : j < t.length := by omega
  have hnt : ¬ TT s (j : Int) := h.new _ (by rw [e]; simp)
  have h1 := (told_false hj).2 hnt
  have hB := belowL_len t j
  have h2 : r.length + (belowL t j).length ≤ 240 := by rw [e] at hL; simp at hL; omega
  have hs := step_new e h1 h2
  rw [show ((j : Int)).toNat = j from rfl] at hs
  refine ⟨by unfold stuckB; rw [hs]; simp; omega, ?_⟩
  have hst := h.ok.step
  rw [hs] at hst ⊢
  have T : ∀ m, TT ⟨s.told.set j true, r ++ belowL t j⟩ m ↔ TT s m ∨ m = j := tt_set hj _
  have nd := h.nod
  rw [e] at nd
  obtain ⟨nd1, nd2⟩ := List.nodup_cons.1 nd
  have hjc : n ∈ chainOf t j := h.sub j (.inl (by rw [e]; simp))
  have hnj : n ≤ j := chain_le h.ok.tree hx.2 hjc
  -- a child that can be told
  have hbel : ∀ c ∈ belowL t j, (j : Int) < c ∧ n ∈ chainOf t c ∧ (ndAt t c).up = j := fun c hc => by
    obtain ⟨_, k, hk, rfl, hu, h4⟩ := belowL_mem.1 hc
    have u := h.ok.tree.up hk
    refine ⟨by omega, ?_, by rw [ndAt_nat t hk, hu]⟩
    rw [chain_nat h.ok.tree hk, if_neg (by
      rintro (h0 | h0)
      · have := u.2.2.1 h0; omega
      · exact h4 h0), hu]
    exact List.mem_cons_of_mem _ hjc
  have hold : ∀ c ∈ belowL t j, ¬ (c ∈ s.work ∨ TT s c) := fun c hc hh => by
    obtain ⟨hlt, _, hup⟩ := hbel c hc
    rcases h.par c hh with rfl | hp
    · omega
    · rw [hup] at hp; exact hnt hp
  refine ⟨hst, ?_, ?_, ?_, ?_, ?_, ?_⟩
  · rintro m (hm | hm)
    · rcases List.mem_append.1 hm with hm | hm
      · exact h.sub m (.inl (by rw [e]; exact List.mem_cons_of_mem _ hm))
      · exact (hbel m hm).2.1
    · rcases (T m).1 hm with hm | rfl
      · exact h.sub m (.inr hm)
      · exact hjc
  · intro m hm c hc
    rw [T]
    rcases (T m).1 hm with hm | rfl
    · rcases h.clo m hm c hc with h' | h'
      · exact .inl (.inl h')
      · rw [e] at h'
        rcases List.mem_cons.1 h' with rfl | h'
        · exact .inl (.inr rfl)
        · exact .inr (List.mem_append_left _ h')
    · exact .inr (List.mem_append_right _ hc)
  · rw [T]
    rcases h.has with h' | h'
    · exact .inl (.inl h')
    · rw [e] at h'
      rcases List.mem_cons.1 h' with h' | h'
      · exact .inl (.inr h')
      · exact .inr (List.mem_append_left _ h')
  · refine List.nodup_append.2 ⟨nd2, belowL_nodup t j, fun a ha b hb e' => ?_⟩
    subst e'
    exact hold a hb (.inl (by rw [e]; exact List.mem_cons_of_mem _ ha))
  · intro m hm hT
    rcases (T m).1 hT with hT | rfl
    · rcases List.mem_append.1 hm with hm | hm
      · exact h.new m (by rw [e]; exact List.mem_cons_of_mem _ hm) hT
      · exact hold m hm (.inr hT)
    · rcases List.mem_append.1 hm with hm | hm
      · exact nd1 hm
      · have := (hbel _ hm).1; omega
  · rintro m hm
    rw [T]
    have old : (m ∈ s.work ∨ TT s m) → m = n ∨ (TT s (ndAt t m).up ∨ (ndAt t m).up = j) := fun hh => (h.par m hh).imp id .inl
    rcases hm with hm | hm
    · rcases List.mem_append.1 hm with hm | hm
      · exact old (.inl (by rw [e]; exact List.mem_cons_of_mem _ hm))
      · exact .inr (.inr (hbel m hm).2.2)
    · rcases (T m).1 hm with hm | rfl
      · exact old (.inr hm)
      · exact old (.inl (by rw [e]; simp))
theorem Inv.all {t : List Nd} {n : Int} : ∀ (k : Nat) (s : Spr), meas s < k → Inv t n s → Inv t n (allP t s) ∧ (allP t s).work = [] := by
  intro k
  induction k with
  | zero => intro s hk; omega
  | succ k ih =>
    intro s hk h
    by_cases hw : s.work = []
    · rw [all_nil hw]; exact ⟨h, hw⟩
    · obtain ⟨h1, h2⟩ := h.step hw
      rw [all_step hw h1]
      exact ih _ (by have := meas_lt hw h1; omega) h2
/-- Where nothing is left to do, whoever has the node in its chain is told. -/
theorem Inv.told {t : List Nd} {n : Int} {s : Spr} (h : Inv t n s) (hw : s.work = []) : ∀ (b k : Nat), k < b → k < t.length → n ∈ chainOf t k → TT s k := by
  intro b
  induction b with
  | zero => intro k hk; omega
  | succ b ih =>
    intro k hk hl hc
    have hn : TT s n := h.has.resolve_right (by rw [hw]; simp)
    rw [chain_nat h.ok.tree hl] at hc
    rcases List.mem_cons.1 hc with rfl | hc
    · exact hn
    · split at hc
      · cases hc
      · rename_i h04
        have u := h.ok.tree.up hl
        have h0 : 0 ≤ t[k].up := by
          rcases Int.lt_or_le t[k].up 0 with h' | h'
          · exact absurd (.inl (u.2.2.2 (by omega))) h04
          · exact h'
        obtain ⟨p, hp⟩ := Int.eq_ofNat_of_zero_le h0
        rw [hp] at hc
        have hT := ih p (by omega) (by omega) hc
        have hb : (k : Int) ∈ belowL t p := belowL_mem.2 ⟨hasB_true.2 ⟨h.ok.tree, by omega, by omega⟩, k, hl, rfl, hp, fun h4 => h04 (.inr h4)⟩
        exact (h.clo _ hT _ hb).resolve_right (by rw [hw]; simp)
/-- The spread that begins with one node. -/
theorem Inv.start {t : List Nd} (o : TreeP t) {n : Int} (h0 : 0 ≤ n) (hl : n < t.length) : Inv t n ⟨List.replicate t.length false, [n]⟩ := by
  have no : ∀ m, ¬ TT ⟨List.replicate t.length false, [n]⟩ m := fun m hm => by
    have := hm.2
    simp only [List.getElem?_replicate] at this
    split at this <;> simp at this
  obtain ⟨k, rfl⟩ := Int.eq_ofNat_of_zero_le h0
  refine ⟨⟨o, by simp, by simp, fun i hi => ?_⟩, ?_, fun m hm => absurd hm (no m), .inr (by simp), by simp, fun m _ => no m, ?_⟩
  · simp only [List.length_cons, List.length_nil] at hi
    obtain rfl : i = 0 := by omega
    exact ⟨h0, hl⟩
  · rintro m (hm | hm)
    · obtain rfl := List.mem_singleton.1 hm
      rw [chain_nat o (by omega)]; simp
    · exact absurd hm (no m)
  · rintro m (hm | hm)
    · exact .inl (List.mem_singleton.1 hm)
    · exact absurd hm (no m)
/-- After all steps from one node: nothing is left, and exactly those are told that have it in their chain. -/
theorem all_told {t : List Nd} (o : TreeP t) {n : Int} (h0 : 0 ≤ n) (hl : n < t.length) :
    SprP t (allP t ⟨List.replicate t.length false, [n]⟩) ∧ (allP t ⟨List.replicate t.length false, [n]⟩).work = [] ∧ ∀ k (h : k < (allP t ⟨List.replicate t.length false, [n]⟩).told.length), (allP t ⟨List.replicate t.length false, [n]⟩).told[k] = decide (n ∈ chainL t k) := by
  obtain ⟨h, hw⟩ := Inv.all (n := n) _ _ (Nat.lt_succ_self _) (Inv.start o h0 hl)
  refine ⟨h.ok, hw, fun k hk => ?_⟩
  have hkt : k < t.length := by rw [← h.ok.told]; exact hk
  have e : chainL t k = chainOf t k := by unfold chainL; rw [if_pos (hasB_true.2 ⟨o, by omega, by omega⟩)]
  rw [e, Bool.eq_iff_iff, ← tt_nat hk, decide_eq_true_eq]
  exact ⟨fun hT => h.sub _ (.inr hT), fun hc => h.told hw (k + 1) k (Nat.lt_succ_self _) hkt hc⟩
end Go.Proofs.Ytlfbmjfbebbdlaa
