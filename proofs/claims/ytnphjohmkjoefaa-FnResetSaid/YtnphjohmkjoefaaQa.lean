/- Timers over a linked heap: elements by block, what a removal or a union keeps of them, validity by look-ups; no function of the program is named here. -/
import Derived.Test.YtnphjohmkjoefaaPj
import Derived.Test.YtnphjohmkjoefaaTp
namespace Go.Proofs.Ytnphjohmkjoefaa
open Go.RowKit Go.Sort

/-- The elements with their blocks. -/
def PT.elems : PT → List (Nat × Int × Int)
  | .nil => []
  | .node g d s l r => (g, d, s) :: (l.elems ++ r.elems)
theorem elems_els (t : PT) : t.tree.els = t.elems.map fun x => ⟨x.2.1, x.2.2, 0⟩ := by
  induction t with
  | nil => rfl
  | node g d s l r hl hr => simp [PT.tree, HTree.els, PT.elems, hl, hr]
theorem elems_blocks (t : PT) : t.elems.map (·.1) = t.blocks := by
  induction t with
  | nil => rfl
  | node g d s l r hl hr => simp [PT.blocks, PT.elems, hl, hr]
theorem joinP_elems (g : Nat) (d s : Int) (a b : PT) : (joinP g d s a b).elems.Perm ((g, d, s) :: (a.elems ++ b.elems)) := by
  unfold joinP
  split
  · exact List.Perm.cons _ List.perm_append_comm
  · exact List.Perm.refl _
theorem mergeP_elems (a b : PT) : (mergeP a b).elems.Perm (a.elems ++ b.elems) := by
  refine mergeP_ind (P := fun a b => (mergeP a b).elems.Perm (a.elems ++ b.elems)) ?_ ?_ ?_ a b
  · intro b; simp [mergeP_nil_left, PT.elems]
  · intro g d s l r; simp [mergeP_nil_right, PT.elems]
  · intro g d s l r g' d' s' l' r' k1 k2
    rw [mergeP_node]
    split
    · rename_i h
      refine (joinP_elems _ _ _ _ _).trans ?_
      refine (List.Perm.cons _ (List.Perm.append_left _ (k1 h))).trans ?_
      refine List.Perm.trans ?_ (List.perm_append_comm (l₁ := (PT.node g' d' s' l' r').elems))
      simp [PT.elems]
    · rename_i h
      refine (joinP_elems _ _ _ _ _).trans ?_
      refine (List.Perm.cons _ (List.Perm.append_left _ (k2 (by simpa using h)))).trans ?_
      simp [PT.elems]
def stepElems (f : Step) : List (Nat × Int × Int) := (f.g, f.d, f.s) :: f.sib.elems
def wayElems (c : List Step) : List (Nat × Int × Int) := c.flatMap stepElems
theorem wayElems_blocks (c : List Step) : (wayElems c).map (·.1) = wayBlocks c := by
  induction c with
  | nil => rfl
  | cons f c ih =>
    have e : wayElems (f :: c) = (f.g, f.d, f.s) :: (f.sib.elems ++ wayElems c) := by simp [wayElems, stepElems]
    rw [e, wayBlocks_cons, ← ih, ← elems_blocks]
    simp
theorem plug_elems (c : List Step) : ∀ u : PT, (plug c u).elems.Perm (u.elems ++ wayElems c) := by
  induction c with
  | nil => intro u; simp [plug, wayElems]
  | cons f c ih =>
    intro u
    simp only [plug]
    refine (ih _).trans ?_
    have e : wayElems (f :: c) = (f.g, f.d, f.s) :: f.sib.elems ++ wayElems c := by simp [wayElems, stepElems]
    rw [e, ← List.append_assoc]
    refine List.Perm.append_right _ ?_
    split
    · simp only [PT.elems]
      exact List.perm_middle.symm
    · simp only [PT.elems]
      refine (List.Perm.cons _ List.perm_append_comm).trans ?_
      exact List.perm_middle.symm
theorem plugJ_elems (c : List Step) : ∀ u : PT, (plugJ c u).elems.Perm (u.elems ++ wayElems c) := by
  induction c with
  | nil => intro u; simp [plugJ, wayElems]
  | cons f c ih =>
    intro u
    simp only [plugJ]
    refine (ih _).trans ?_
    have e : wayElems (f :: c) = (f.g, f.d, f.s) :: f.sib.elems ++ wayElems c := by simp [wayElems, stepElems]
    rw [e, ← List.append_assoc]
    refine List.Perm.append_right _ ?_
    split
    · exact (joinP_elems _ _ _ _ _).trans List.perm_middle.symm
    · refine (joinP_elems _ _ _ _ _).trans ((List.Perm.cons _ List.perm_append_comm).trans ?_)
      exact List.perm_middle.symm

/-- An element with these numbers lies in this block. -/
def ElAt (w : World) (g : Nat) (d s : Int) : Prop := ∃ x y z, Blk w g 61 #[.int .i64 d, .int .i64 s, x, y, z]
/-- Every element keeps its numbers. -/
def Keeps (w w' : World) : Prop := ∀ g d s, ElAt w g d s → ElAt w' g d s
section
variable {w w' w'' : World} {g : Nat} {d s d' s' : Int} {par : Value}
theorem ElAt.c0 (h : ElAt w g d s) : w.cell? ⟨g, 0, none⟩ = some (.int .i64 d) := by obtain ⟨_, _, _, h⟩ := h; exact h.cell 0
theorem ElAt.c1 (h : ElAt w g d s) : w.cell? ⟨g, 1, none⟩ = some (.int .i64 s) := by obtain ⟨_, _, _, h⟩ := h; exact h.cell 1
theorem ElAt.lt (h : ElAt w g d s) : g < w.heap.size := by obtain ⟨_, _, _, h⟩ := h; exact h.lt
theorem ElAt.uniq (h : ElAt w g d s) (h' : ElAt w g d' s') : d = d' ∧ s = s' := by
  have a := h.c0.symm.trans h'.c0
  have b := h.c1.symm.trans h'.c1
  injection a with a
  injection a with _ a
  injection b with b
  injection b with _ b
  exact ⟨a, b⟩
theorem ElAt.kept {lo hi : Nat} (h : ElAt w g d s) (hk : Kept lo hi w w') (hr : hi ≤ lo ∨ g < lo ∨ hi ≤ g) : ElAt w' g d s := by
  obtain ⟨x, y, z, h⟩ := h; exact ⟨x, y, z, h.kept hk hr⟩
theorem ElAt.far (h : ElAt w g d s) {p : Addr} (hp : g ≠ p.block) (u : Value) : ElAt (w.setCell p u) g d s := by
  obtain ⟨x, y, z, h⟩ := h; exact ⟨x, y, z, h.far hp u⟩
theorem Lay.el : ∀ {t : PT} {par : Value}, Lay w par t → ∀ x ∈ t.elems, ElAt w x.1 x.2.1 x.2.2
  | .nil, _, _, x, hx => by simp [PT.elems] at hx
  | .node g d s l r, par, h, x, hx => by
    simp only [PT.elems, List.mem_cons, List.mem_append] at hx
    rcases hx with rfl | hx | hx
    · exact ⟨_, _, _, h.1⟩
    · exact h.2.1.el x hx
    · exact h.2.2.el x hx
theorem Keeps.refl (w : World) : Keeps w w := fun _ _ _ h => h
theorem Keeps.trans (h : Keeps w w') (k : Keeps w' w'') : Keeps w w'' := fun g d s e => k g d s (h g d s e)
theorem Keeps.of_kept (h : Kept 0 0 w w') : Keeps w w' := fun _ _ _ e => e.kept h (.inl (Nat.le_refl _))
/-- Where what is turned are elements that keep their numbers. -/
theorem Keeps.turned {S : List Nat} {E : List (Nat × Int × Int)} (ht : Turned S w w') (hS : ∀ g ∈ S, g ∈ E.map (·.1)) (h1 : ∀ x ∈ E, ElAt w x.1 x.2.1 x.2.2) (h2 : ∀ x ∈ E, ElAt w' x.1 x.2.1 x.2.2) : Keeps w w' := by
  intro g d s h
  by_cases hg : g ∈ S
  · obtain ⟨x, hx, rfl⟩ := List.mem_map.1 (hS g hg)
    obtain ⟨e1, e2⟩ := h.uniq (h1 x hx)
    rw [e1, e2]
    exact h2 x hx
  · obtain ⟨x, y, z, h⟩ := h
    exact ⟨x, y, z, h.turned ht hg⟩
/-- A removal keeps every element's numbers, those of the removed one too. -/
theorem keeps_removed {c : List Step} {l r : PT} (h : Lay w (.pointer none) (plug c (.node g d s l r))) (h' : Lay w' (.pointer none) (plugJ c (mergeP l r))) (ht : Turned ((mergeP l r).blocks ++ wayBlocks c) w w') : Keeps w w' := by
  refine Keeps.turned (E := (mergeP l r).elems ++ wayElems c) ht ?_ ?_ ?_
  · intro x hx
    rw [List.map_append, elems_blocks, wayElems_blocks]
    exact hx
  · intro x hx
    refine h.el x ((plug_elems c _).mem_iff.2 ?_)
    rcases List.mem_append.1 hx with hx | hx
    · have := (mergeP_elems l r).mem_iff.1 hx
      exact List.mem_append_left _ (by simp only [PT.elems]; exact List.mem_cons_of_mem _ this)
    · exact List.mem_append_right _ hx
  · intro x hx
    exact h'.el x ((plugJ_elems c _).mem_iff.2 hx)
theorem keeps_union {a b : PT} {pa pb pc : Value} (ha : Lay w pa a) (hb : Lay w pb b) (h' : Lay w' pc (mergeP a b)) (ht : Turned (a.blocks ++ b.blocks) w w') : Keeps w w' := by
  refine Keeps.turned (E := a.elems ++ b.elems) ht ?_ ?_ ?_
  · intro x hx
    rw [List.map_append, elems_blocks, elems_blocks]
    exact hx
  · intro x hx
    rcases List.mem_append.1 hx with hx | hx
    · exact ha.el x hx
    · exact hb.el x hx
  · intro x hx
    exact h'.el x ((mergeP_elems a b).mem_iff.2 hx)
end

/-! ### Look-ups in the heap -/
theorem findP_at : ∀ (t : PT) (q : Int) (c : List Step) (x : List Step × PT), findP t q c = some x → ∃ g d l r, x.2 = .node g d q l r ∧ (g, d, q) ∈ t.elems
  | .nil, q, c, x, h => by simp [findP] at h
  | .node g d s l r, q, c, x, h => by
    simp only [findP] at h
    split at h
    · rename_i hs
      injection h with h
      subst h hs
      exact ⟨g, d, l, r, rfl, by simp [PT.elems]⟩
    · cases hl : findP l q (⟨g, d, s, true, r⟩ :: c) with
      | some y =>
        rw [hl] at h
        injection h with h
        subst h
        obtain ⟨a1, a2, a3, a4, a5, a6⟩ := findP_at l q _ y hl
        exact ⟨a1, a2, a3, a4, a5, by simp [PT.elems, a6]⟩
      | none =>
        rw [hl] at h
        obtain ⟨a1, a2, a3, a4, a5, a6⟩ := findP_at r q _ x h
        exact ⟨a1, a2, a3, a4, a5, by simp [PT.elems, a6]⟩
theorem findP_no : ∀ (t : PT) (q : Int) (c : List Step), findP t q c = none → ∀ x ∈ t.elems, x.2.2 ≠ q
  | .nil, q, c, _, x, hx => by simp [PT.elems] at hx
  | .node g d s l r, q, c, h, x, hx => by
    simp only [findP] at h
    split at h
    · cases h
    · rename_i hs
      cases hl : findP l q (⟨g, d, s, true, r⟩ :: c) with
      | some y => rw [hl] at h; cases h
      | none =>
        rw [hl] at h
        simp only [PT.elems, List.mem_cons, List.mem_append] at hx
        rcases hx with rfl | hx | hx
        · exact hs
        · exact findP_no l q _ hl x hx
        · exact findP_no r q _ h x hx
/-- The timer x has the element in block e. -/
def InT (t : PT) (x : Tm) (e : Nat) : Prop := ∃ c l r, findP t x.seq [] = some (c, .node e x.due x.seq l r)
theorem mem_heap {t : PT} {hp : List Tw} (h : t.tree.pre = hp) {g : Nat} {d s : Int} (hx : (g, d, s) ∈ t.elems) : ∃ y ∈ hp, y.due = d ∧ y.seq = s := by
  have h1 : (⟨d, s, 0⟩ : Tw) ∈ t.tree.els := by rw [elems_els]; exact List.mem_map.2 ⟨_, hx, rfl⟩
  rw [els_pre, h] at h1
  obtain ⟨y, hy, e⟩ := List.mem_map.1 h1
  unfold zero at e
  injection e with e1 e2 e3
  exact ⟨y, hy, e1, e2⟩
theorem heap_mem {t : PT} {hp : List Tw} (h : t.tree.pre = hp) {y : Tw} (hy : y ∈ hp) : ∃ g, (g, y.due, y.seq) ∈ t.elems := by
  have h1 : zero y ∈ t.tree.els := by rw [els_pre, h]; exact List.mem_map.2 ⟨y, hy, rfl⟩
  rw [elems_els] at h1
  obtain ⟨⟨g, d, s⟩, hx, e⟩ := List.mem_map.1 h1
  unfold zero at e
  injection e with e1 e2 e3
  simp only at e1 e2
  subst e1 e2
  exact ⟨g, hx⟩
theorem seq_same {hp : List Tw} (hn : (hp.map Tw.seq).Nodup) : ∀ {x y : Tw}, x ∈ hp → y ∈ hp → x.seq = y.seq → x = y := by
  induction hp with
  | nil => intro x y hx; cases hx
  | cons z r ih =>
    intro x y hx hy e
    rw [List.map_cons, List.nodup_cons] at hn
    rcases List.mem_cons.1 hx with h1 | h1
    · rcases List.mem_cons.1 hy with h2 | h2
      · rw [h1, h2]
      · exact absurd (List.mem_map.2 ⟨y, h2, by rw [← e, h1]⟩) hn.1
    · rcases List.mem_cons.1 hy with h2 | h2
      · exact absurd (List.mem_map.2 ⟨x, h1, by rw [e, h2]⟩) hn.1
      · exact ih hn.2 h1 h2 e
theorem heap_nd {xs : List Tw} (h : heapOkB xs = true) : (xs.map Tw.seq).Nodup := by
  have := (heapOk_iff.1 h).2.1
  simpa [twiceB] using this
theorem cover : ∀ (A H : List Int), A.Nodup → (∀ a ∈ A, a ∈ H) → H.length ≤ A.length → ∀ h ∈ H, h ∈ A
  | [], H, _, _, hl, h, hh => by
    have : H = [] := List.eq_nil_of_length_eq_zero (by simpa using hl)
    rw [this] at hh
    cases hh
  | a :: A, H, hn, hs, hl, h, hh => by
    rw [List.nodup_cons] at hn
    by_cases e : h = a
    · rw [e]; simp
    · have ha := hs a (by simp)
      have h1 : (H.erase a).length ≤ A.length := by
        rw [List.length_erase_of_mem ha]
        simp only [List.length_cons] at hl
        omega
      have h2 : ∀ x ∈ A, x ∈ H.erase a := fun x hx => (List.mem_erase_of_ne (fun (e : x = a) => hn.1 (e ▸ hx))).2 (hs x (List.mem_cons_of_mem _ hx))
      exact List.mem_cons_of_mem _ (cover A (H.erase a) hn.2 h2 h1 h ((List.mem_erase_of_ne e).2 hh))
theorem armed_seqs {l : List Tm} (h : l.Pairwise fun x y => x.seq < y.seq) : ((l.filter fun x => x.armed).map Tm.seq).Nodup := by
  refine List.Pairwise.map Tm.seq (R := fun x y => x.seq < y.seq) ?_ (List.Pairwise.filter _ h)
  intro a b hab
  omega
/-- Every armed timer is found in the heap, and their numbers are equal: the timers are valid. -/
theorem ok_all {T : Tms} {t : PT} (hp : t.tree.pre = T.heap) (ho : heapOkB T.heap = true) (hl : T.list.length ≤ 64) (hn : 0 ≤ T.next ∧ T.next ≤ 1000000) (hpre : PreOk T T.list.length) (hm : ∀ x ∈ T.list, x.armed = true → ∃ e, InT t x e) (hc : armedN T.list = T.heap.length) : TmsOk T := by
  have he := hpre.each
  have hr := hpre.rise
  rw [List.take_of_length_le (Nat.le_refl _)] at he hr
  refine ⟨ho, hl, hn, he, hr, ?_, hc⟩
  intro h hh
  have hA := cover ((T.list.filter fun x => x.armed).map Tm.seq) (T.heap.map Tw.seq) (armed_seqs hr) ?_ (by simp only [List.length_map]; unfold armedN at hc; omega) h.seq (List.mem_map.2 ⟨h, hh, rfl⟩)
  · obtain ⟨x, hx, e⟩ := List.mem_map.1 hA
    obtain ⟨hx, ha⟩ := List.mem_filter.1 hx
    obtain ⟨g, c, l, r, hf⟩ := hm x hx ha
    obtain ⟨g', d', l', r', e1, e2⟩ := findP_at t _ _ _ hf
    injection e1 with e3 e4
    subst e3 e4
    obtain ⟨y, hy, y1, y2⟩ := mem_heap hp e2
    have := seq_same (heap_nd ho) hy hh (by rw [y2, e])
    subst this
    exact ⟨x, hx, e, ha, y1.symm⟩
  · intro a ha
    obtain ⟨x, hx, rfl⟩ := List.mem_map.1 ha
    obtain ⟨hx, ha⟩ := List.mem_filter.1 hx
    obtain ⟨g, c, l, r, hf⟩ := hm x hx ha
    obtain ⟨g', d', l', r', e1, e2⟩ := findP_at t _ _ _ hf
    obtain ⟨y, hy, y1, y2⟩ := mem_heap hp e2
    exact List.mem_map.2 ⟨y, hy, y2⟩
/-- In valid timers every armed timer is found in the heap. -/
theorem ok_match {T : Tms} {t : PT} (hp : t.tree.pre = T.heap) (o : TmsOk T) {x : Tm} (hx : x ∈ T.list) (ha : x.armed = true) : ∃ e, InT t x e := by
  have hu := heap_nd o.heap
  have hA := cover (T.heap.map Tw.seq) ((T.list.filter fun x => x.armed).map Tm.seq) hu ?_ (by simp only [List.length_map]; exact Nat.le_of_eq o.count) x.seq (List.mem_map.2 ⟨x, List.mem_filter.2 ⟨hx, ha⟩, rfl⟩)
  · obtain ⟨y, hy, e⟩ := List.mem_map.1 hA
    obtain ⟨x', hx', e1, e2, e3⟩ := o.armed y hy
    have hxx : x' = x := by
      obtain ⟨i, hi, rfl⟩ := List.getElem_of_mem hx'
      obtain ⟨j, hj, rfl⟩ := List.getElem_of_mem hx
      obtain rfl := rise_same o.rise hi hj (e1.trans e)
      rfl
    subst hxx
    obtain ⟨g, hg⟩ := heap_mem hp hy
    cases hf : findP t x'.seq [] with
    | none => exact absurd e1.symm (findP_no t _ _ hf _ hg)
    | some z =>
      obtain ⟨z1, z2⟩ := z
      obtain ⟨g', d', l', r', h1, h2⟩ := findP_at t _ _ _ hf
      obtain ⟨y', hy', y1, y2⟩ := mem_heap hp h2
      have := seq_same hu hy' hy (by rw [y2, e])
      subst this
      simp only at h1
      exact ⟨g', z1, l', r', by rw [hf, h1, ← y1, e3]⟩
  · intro a ha
    obtain ⟨y, hy, rfl⟩ := List.mem_map.1 ha
    obtain ⟨x', hx', e1, e2, e3⟩ := o.armed y hy
    exact List.mem_map.2 ⟨x', List.mem_filter.2 ⟨hx', e2⟩, e1⟩
end Go.Proofs.Ytnphjohmkjoefaa
