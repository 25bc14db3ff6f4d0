/- Who waits for what, kept in a map: on paper and in memory; no condition beyond what each theorem states. -/
import Derived.Test.YtfpnpjpcjbndoaaIm
namespace Go.Proofs.Ytfpnpjpcjbndoaa
open Go.RowKit Go.Sort

/-- Every entry names the tasks before k that wait for its key, no key is there twice, and for other keys nobody waits. -/
def Follows (E : List WEnt) (l : List Tk) (k : Nat) : Prop := (∀ e ∈ E, e.ks = idxTo (isPk e.key.1 e.key.2) l k) ∧ (∀ a, NoK E a → idxTo (isPk a.1 a.2) l k = []) ∧ (E.map WEnt.key).Nodup
theorem Follows.zero (l : List Tk) : Follows [] l 0 := ⟨(by intro e h; cases h), fun a _ => idxTo_zero _ l, (by simp)⟩
theorem Follows.skip {E : List WEnt} {l : List Tk} {k : Nat} (h : Follows E l k) (hk : k < l.length) (hs : l[k].st ≠ 1) : Follows E l (k + 1) := by
  have e : ∀ a : Int × Int, idxTo (isPk a.1 a.2) l (k + 1) = idxTo (isPk a.1 a.2) l k := fun a => by
    rw [idxTo_succ _ l hk, if_neg]
    simp [isPk, hs]
  exact ⟨fun x hx => by rw [e x.key]; exact h.1 x hx, fun a ha => by rw [e a]; exact h.2.1 a ha, h.2.2⟩
theorem Follows.add {E : List WEnt} {l : List Tk} {k : Nat} (h : Follows E l k) {a : Int × Int} (hn : NoK E a) (c : Nat) : Follows (E ++ [⟨a, none, 0, [], c⟩]) l k := by
  refine ⟨?_, ?_, ?_⟩
  · intro e he
    rcases List.mem_append.1 he with he | he
    · exact h.1 e he
    · simp only [List.mem_singleton] at he
      subst he
      exact (h.2.1 a hn).symm
  · intro b hb
    exact h.2.1 b fun p hp => hb p (List.mem_append_left _ hp)
  · rw [List.map_append, List.nodup_append]
    refine ⟨h.2.2, by simp, ?_⟩
    intro x hx y hy e
    simp at hy
    obtain ⟨p, hp, rfl⟩ := List.mem_map.1 hx
    exact hn p hp (by rw [e, hy])
theorem key_other {E : List WEnt} (hd : (E.map WEnt.key).Nodup) {i j : Nat} (hi : i < E.length) (hj : j < E.length) (hne : i ≠ j) : E[i].key ≠ E[j].key := by
  have pw := List.pairwise_iff_getElem.1 hd
  rcases Nat.lt_or_gt_of_ne hne with h | h
  · have := pw i j (by simpa using hi) (by simpa using hj) h
    simpa using this
  · have := pw j i (by simpa using hj) (by simpa using hi) h
    intro e
    exact this (by simpa using e.symm)
theorem Follows.put {E : List WEnt} {l : List Tk} {k : Nat} (h : Follows E l k) (hk : k < l.length) (hs : l[k].st = 1) {i : Nat} (hi : i < E.length) (hkey : E[i].key = (l[k].why, l[k].what)) (D : Option Addr) (d b : Nat) :
    Follows (E.set i ⟨E[i].key, D, d, E[i].ks ++ [(k : Int)], b⟩) l (k + 1) := by
  have pk : ∀ a : Int × Int, isPk a.1 a.2 l[k] = decide (a = E[i].key) := by
    intro a
    rw [hkey]
    simp only [isPk, hs, decide_true, Bool.true_and]
    rw [← Bool.decide_and]
    congr 1
    apply propext
    constructor
    · rintro ⟨h1, h2⟩; exact Prod.ext h1.symm h2.symm
    · rintro rfl; exact ⟨rfl, rfl⟩
  have key_ : (E.set i ⟨E[i].key, D, d, E[i].ks ++ [(k : Int)], b⟩).map WEnt.key = E.map WEnt.key := by
    rw [List.map_set]
    exact set_sameL _ _ _ (by simp [hi])
  refine ⟨?_, ?_, by rw [key_]; exact h.2.2⟩
  · intro e he
    obtain ⟨j, hj, rfl⟩ := List.getElem_of_mem he
    have hj' : j < E.length := by simpa using hj
    rw [List.getElem_set]
    by_cases hij : i = j
    · subst hij
      rw [if_pos rfl]
      rw [idxTo_succ _ l hk, pk, if_pos (by simp), h.1 _ (List.getElem_mem hi)]
    · rw [if_neg hij]
      rw [idxTo_succ _ l hk, pk, if_neg (by simpa using (key_other h.2.2 hj' hi (fun q => hij q.symm)))]
      exact h.1 _ (List.getElem_mem hj')
  · intro a ha
    have hn : NoK E a := by
      intro p hp q
      have : a ∈ (E.set i ⟨E[i].key, D, d, E[i].ks ++ [(k : Int)], b⟩).map WEnt.key := by
        rw [key_, ← q]
        exact List.mem_map.2 ⟨p, hp, rfl⟩
      obtain ⟨p', hp', q'⟩ := List.mem_map.1 this
      exact ha p' hp' q'
    rw [idxTo_succ _ l hk, pk, if_neg (by simpa using fun q => hn _ (List.getElem_mem hi) q.symm)]
    exact h.2.1 a hn
theorem KAt.of_nodup {E : List WEnt} (hd : (E.map WEnt.key).Nodup) {i : Nat} (hi : i < E.length) : KAt E E[i].key i :=
  ⟨hi, rfl, fun k hk => key_other hd (by omega) hi (by omega)⟩

/-- The entries' slices are rows of the call's own, no two in one block. -/
def OwnE (w : World) (lo : Nat) (E : List WEnt) : Prop := (∀ e ∈ E, w.ownsRow lo 2 1 (.slice e.D e.ks.length e.d) e.ks.length (iR.flat e.ks)) ∧ E.Pairwise fun x y => ∀ g, rowAt x.D = some g → rowAt y.D ≠ some g
theorem row_far {w w' : World} {lo e size n c : Nat} {D : Option Addr} {xs : List Value} (h : w.ownsRow lo e size (.slice D n c) n xs) (hg : ∀ g, rowAt D = some g → w'.heap[g]? = w.heap[g]?) : w'.ownsRow lo e size (.slice D n c) n xs := by
  refine ⟨h.1, ?_⟩
  rcases h.2 with hn | ⟨g, cap, cur, hv, hb, hh, rest⟩
  · exact .inl hn
  · refine .inr ⟨g, cap, cur, hv, hb, ?_, rest⟩
    rw [hg g (by injection hv with h1; rw [h1]; rfl)]
    exact hh
theorem OwnE.far {w w' : World} {lo : Nat} {E : List WEnt} (h : OwnE w lo E) (hg : ∀ e ∈ E, ∀ g, rowAt e.D = some g → w'.heap[g]? = w.heap[g]?) : OwnE w' lo E := ⟨fun e he => row_far (h.1 e he) (hg e he), h.2⟩
theorem OwnE.kept {w w' : World} {lo : Nat} {E : List WEnt} (h : OwnE w lo E) (hk : Kept 0 0 w w') : OwnE w' lo E := ⟨fun e he => row_kept (h.1 e he) hk, h.2⟩
theorem OwnE.map {w w' : World} {lo m : Nat} {E : List WEnt} {F : List WEnt} (h : OwnE w lo E) (hm : RMap w m F) (hk : Kept m (m + 1) w w') : OwnE w' lo E :=
  h.far fun e he g hg => hk.block g (own_row_lo (h.1 e he) g hg).2 (by have := hm.row_ne (h.1 e he); rw [hg] at this; have : g ≠ m := fun q => this (by rw [q]); omega)
theorem OwnE.nil (w : World) (lo : Nat) : OwnE w lo [] := ⟨(by intro e h; cases h), List.Pairwise.nil⟩
theorem OwnE.add {w : World} {lo : Nat} {E : List WEnt} (h : OwnE w lo E) (a : Int × Int) (c : Nat) : OwnE w lo (E ++ [⟨a, none, 0, [], c⟩]) := by
  refine ⟨?_, ?_⟩
  · intro e he
    rcases List.mem_append.1 he with he | he
    · exact h.1 e he
    · simp only [List.mem_singleton] at he
      subst he
      exact ⟨rfl, .inl ⟨rfl, rfl⟩⟩
  · rw [List.pairwise_append]
    refine ⟨h.2, List.pairwise_singleton _ _, ?_⟩
    intro x _ y hy g _
    simp only [List.mem_singleton] at hy
    subst hy
    simp [rowAt]
theorem OwnE.put {w w' : World} {lo : Nat} {E : List WEnt} (h : OwnE w lo E) {i : Nat} (hi : i < E.length) (hg : w.grownBy w' (rowAt E[i].D)) (a : Int × Int) (D : Option Addr) (d : Nat) (ks : List Int) (b : Nat)
    (ho : w'.ownsRow lo 2 1 (.slice D ks.length d) ks.length (iR.flat ks)) (hat : rowAt D = rowAt E[i].D ∨ rowAt D = some w.heap.size) : OwnE w' lo (E.set i ⟨a, D, d, ks, b⟩) := by
  have ne : ∀ j (hj : j < E.length), i ≠ j → ∀ g, rowAt E[j].D = some g → rowAt E[i].D ≠ some g ∧ rowAt D ≠ some g := by
    intro j hj hij g hq
    have h1 : rowAt E[i].D ≠ some g := by
      have pw := List.pairwise_iff_getElem.1 h.2
      rcases Nat.lt_or_gt_of_ne hij with hlt | hgt
      · intro q
        exact pw i j hi hj hlt g q hq
      · exact pw j i hj hi hgt g hq
    refine ⟨h1, ?_⟩
    rcases hat with e | e
    · rw [e]; exact h1
    · rw [e]
      intro q
      injection q with q
      have := (own_row_lo (h.1 _ (List.getElem_mem hj)) g hq).2
      omega
  refine ⟨?_, ?_⟩
  · intro e he
    obtain ⟨j, hj, rfl⟩ := List.getElem_of_mem he
    have hj' : j < E.length := by simpa using hj
    by_cases hij : i = j
    · subst hij
      simpa using ho
    · have : (E.set i ⟨a, D, d, ks, b⟩)[j] = E[j] := by rw [List.getElem_set, if_neg hij]
      rw [this]
      exact row_far (h.1 _ (List.getElem_mem hj')) fun g hq => hg.block g (own_row_lo (h.1 _ (List.getElem_mem hj')) g hq).2 (fun q => (ne j hj' hij g hq).1 q.symm)
  · rw [List.pairwise_iff_getElem]
    intro x y hx hy hxy g hq
    have hx' : x < E.length := by simpa using hx
    have hy' : y < E.length := by simpa using hy
    rw [List.getElem_set] at hq ⊢
    by_cases h1 : i = x
    · have h2 : ¬ i = y := by omega
      rw [if_pos h1] at hq
      rw [if_neg h2]
      intro q
      exact (ne y hy' h2 g q).2 hq
    · rw [if_neg h1] at hq
      by_cases h2 : i = y
      · rw [if_pos h2]
        exact (ne x hx' h1 g hq).2
      · rw [if_neg h2]
        exact (List.pairwise_iff_getElem.1 h.2) x y hx' hy' hxy g hq

/-- Block m is a map that holds who waits for what among the tasks before k. -/
def Waits (w : World) (lo m : Nat) (E : List WEnt) (l : List Tk) (k : Nat) : Prop := lo ≤ m ∧ RMap w m E ∧ OwnE w lo E ∧ Follows E l k
section
variable {w w' : World} {lo m k : Nat} {E : List WEnt} {l : List Tk}
theorem Waits.kept (h : Waits w lo m E l k) (hk : Kept 0 0 w w') : Waits w' lo m E l k := ⟨h.1, h.2.1.kept hk (.inl (Nat.le_refl _)), h.2.2.1.kept hk, h.2.2.2⟩
/-- What a look-up gives: those that wait. -/
theorem Waits.look (h : Waits w lo m E l k) (a : Int × Int) : ∃ (D : Option Addr) (d : Nat) (ks : List Int), (Instr.lookup 53 (.map (some m)) (rkey a) false).run Try.prog w = .ok (.slice D ks.length d) w ∧ ks = idxTo (isPk a.1 a.2) l k ∧ w.ownsRow lo 2 1 (.slice D ks.length d) ks.length (iR.flat ks) ∧ rowAt D ≠ some m := by
  rcases k_or E a with hn | ⟨i, hi⟩
  · exact ⟨none, 0, [], h.2.1.look_no hn, (h.2.2.2.2.1 a hn).symm, ⟨rfl, .inl ⟨rfl, rfl⟩⟩, by simp [rowAt]⟩
  · obtain ⟨hl, hk, _⟩ := id hi
    have o := h.2.2.1.1 _ (List.getElem_mem hl)
    have f := h.2.2.2.1 _ (List.getElem_mem hl)
    rw [hk] at f
    exact ⟨_, _, _, h.2.1.look_at hi hl, f, o, h.2.1.row_ne o⟩
/-- What an entry for an append gives: a list E1 with the key at i, everything else as it was. -/
theorem Waits.entry (h : Waits w lo m E l k) (a : Int × Int) : ∃ (E1 : List WEnt) (i : Nat) (hi : i < E1.length) (w1 : World), (Instr.mapEntry 53 (.map (some m)) (rkey a)).run Try.prog w = .ok (.tuple #[.slice E1[i].D E1[i].ks.length E1[i].d, goInt E1[i].born]) w1 ∧ E1[i].key = a ∧ Waits w1 lo m E1 l k ∧ Kept m (m + 1) w w1 := by
  rcases k_or E a with hn | ⟨i, hi⟩
  · obtain ⟨c, w1, h1, h2, h3⟩ := h.2.1.entry_no hn
    refine ⟨E ++ [⟨a, none, 0, [], c⟩], E.length, by simp, w1, ?_, by simp, ⟨h.1, h2, (h.2.2.1.map h.2.1 h3).add a c, h.2.2.2.add hn c⟩, h3⟩
    simpa using h1
  · obtain ⟨hl, hk, _⟩ := id hi
    obtain ⟨w1, h1, h2, h3⟩ := h.2.1.entry_at hi hl
    exact ⟨E, i, hl, w1, h1, hk, ⟨h.1, h2, h.2.2.1.map h.2.1 h3, h.2.2.2⟩, h3⟩
/-- What the store of the grown slice leaves. -/
theorem Waits.put {w1 w2 : World} {i : Nat} (h : Waits w1 lo m E l k) (hk : k < l.length) (hs : l[k].st = 1) (hi : i < E.length) (hkey : E[i].key = (l[k].why, l[k].what)) (hg : w1.grownBy w2 (rowAt E[i].D)) {D : Option Addr} {d : Nat}
    (ho : w2.ownsRow lo 2 1 (.slice D (E[i].ks ++ [(k : Int)]).length d) (E[i].ks ++ [(k : Int)]).length (iR.flat (E[i].ks ++ [(k : Int)]))) (hat : rowAt D = rowAt E[i].D ∨ rowAt D = some w1.heap.size) :
    ∃ (w3 : World) (E2 : List WEnt), (Instr.entryStore 53 (.map (some m)) (.int .i64 E[i].born) (.slice D (E[i].ks.length + 1) d)).run Try.prog w2 = .ok () w3 ∧ Waits w3 lo m E2 l (k + 1) ∧ Kept m (m + 1) w2 w3 := by
  have hm2 : RMap w2 m E := h.2.1.block (hg.block m h.2.1.lt (fun q => h.2.1.row_ne (h.2.2.1.1 _ (List.getElem_mem hi)) q.symm))
  obtain ⟨w3, h1, h2, h3⟩ := hm2.store hi D d (E[i].ks ++ [(k : Int)])
  refine ⟨w3, _, by rw [List.length_append, List.length_singleton] at h1; exact h1, ⟨h.1, h2, (h.2.2.1.put hi hg _ D d _ _ ho hat).map hm2 h3, h.2.2.2.put hk hs hi hkey D d _⟩, h3⟩
/-- The two with the entry as one letter. -/
theorem Waits.entryX (h : Waits w lo m E l k) (a : Int × Int) : ∃ (E1 : List WEnt) (i : Nat) (D0 : Option Addr) (d0 : Nat) (ks : List Int) (b : Nat) (w1 : World), (Instr.mapEntry 53 (.map (some m)) (rkey a)).run Try.prog w = .ok (.tuple #[.slice D0 ks.length d0, .int .i64 b]) w1 ∧ E1[i]? = some ⟨a, D0, d0, ks, b⟩ ∧ Waits w1 lo m E1 l k ∧ Kept m (m + 1) w w1 := by
  obtain ⟨E1, i, hi, w1, h1, h2, h3, h4⟩ := h.entry a
  refine ⟨E1, i, _, _, _, _, w1, h1, ?_, h3, h4⟩
  rw [List.getElem?_eq_getElem hi, ← h2]
theorem Waits.rowX {i : Nat} {x : WEnt} (h : Waits w lo m E l k) (hx : E[i]? = some x) : w.ownsRow lo 2 1 (.slice x.D x.ks.length x.d) x.ks.length (iR.flat x.ks) ∧ x.ks.length ≤ l.length := by
  have hm : x ∈ E := List.mem_of_getElem? hx
  refine ⟨h.2.2.1.1 x hm, ?_⟩
  have f := congrArg List.length (h.2.2.2.1 x hm)
  have := idxTo_len (isPk x.key.1 x.key.2) l k
  omega
theorem Waits.putX {w1 w2 : World} {i : Nat} {D0 : Option Addr} {d0 b : Nat} {ks : List Int} (h : Waits w1 lo m E l k) {t : Tk} (ht : l[k]? = some t) (hs : t.st = 1) (hx : E[i]? = some ⟨(t.why, t.what), D0, d0, ks, b⟩) (hg : w1.grownBy w2 (rowAt D0)) {D : Option Addr} {d : Nat}
    (ho : w2.ownsRow lo 2 1 (.slice D (ks ++ [(k : Int)]).length d) (ks ++ [(k : Int)]).length (iR.flat (ks ++ [(k : Int)]))) (hat : rowAt D = rowAt D0 ∨ rowAt D = some w1.heap.size) :
    ∃ (w3 : World) (E2 : List WEnt), (Instr.entryStore 53 (.map (some m)) (.int .i64 b) (.slice D (ks.length + 1) d)).run Try.prog w2 = .ok () w3 ∧ Waits w3 lo m E2 l (k + 1) ∧ Kept m (m + 1) w2 w3 := by
  obtain ⟨hk, e⟩ := List.getElem?_eq_some_iff.1 ht
  obtain ⟨hi, ex⟩ := List.getElem?_eq_some_iff.1 hx
  subst e
  have := h.put hk hs hi (by rw [ex]) (D := D) (d := d) (w2 := w2) (by rw [ex]; exact hg) (by rw [ex]; exact ho) (by rw [ex]; exact hat)
  rw [ex] at this
  exact this
end
theorem wpList_entM {P : Program} (w w' : World) {ops : Array Oper} {rest : List Oper} {o : Oper} {a : Act} {Q : Exit → Act → World → Prop} (hg : o.guard = none) (m x : Operand) (t : TypeId) (hop : o.op = Op.mapEntry t m x)
    (vm vx v : Value) (hm : a.eval m = vm) (hx : a.eval x = vx) (hrun : (Instr.mapEntry t vm vx).run P w = .ok v w') (hK : wpList P ops Q rest (a.put o.dst v) w') : wpList P ops Q (o :: rest) a w := by
  refine wpList_plain hg fun K' hK' => ?_
  unfold Oper.wp
  simp [execOp, hop, hm, hx, hrun, Result.andThen]
  exact hK' _ _ hK
theorem wpList_stoM {P : Program} (w w' : World) {ops : Array Oper} {rest : List Oper} {o : Oper} {a : Act} {Q : Exit → Act → World → Prop} (hg : o.guard = none) (m s x : Operand) (t : TypeId) (hop : o.op = Op.entryStore t m s x)
    (vm vs vx : Value) (hm : a.eval m = vm) (hs : a.eval s = vs) (hx : a.eval x = vx) (hrun : (Instr.entryStore t vm vs vx).run P w = .ok () w') (hK : wpList P ops Q rest (a.put o.dst undef) w') : wpList P ops Q (o :: rest) a w := by
  refine wpList_plain hg fun K' hK' => ?_
  unfold Oper.wp
  simp [execOp, hop, hm, hs, hx, hrun, Result.andThen]
  exact hK' _ _ hK
end Go.Proofs.Ytfpnpjpcjbndoaa
