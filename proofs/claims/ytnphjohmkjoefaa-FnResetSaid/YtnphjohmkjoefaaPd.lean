/- The program's methods of elements: mayLead, alone, find, and the union of two linked heaps; no condition beyond that the heaps lie in memory. -/
import Derived.Test.YtnphjohmkjoefaaPc
import Derived.Deep.RegionWith
namespace Go.Proofs.Ytnphjohmkjoefaa
open Go.RowKit Go.Sort

theorem Lay.drew {w : World} {par : Value} {t : PT} (h : Lay w par t) : Lay w.drew par t := h.turned ((Turned.refl [] w).drew) (by simp)
theorem nd_top {g : Nat} {l r o : List Nat} (h : ((g :: (l ++ r)) ++ o).Nodup) : (r ++ o).Nodup ∧ g ∉ l ∧ g ∉ r ++ o ∧ (∀ x ∈ l, x ∉ r ++ o) ∧ (g :: (l ++ (r ++ o))).Nodup := by
  have e : (g :: (l ++ r)) ++ o = g :: (l ++ (r ++ o)) := by simp
  rw [e] at h
  have h' := h
  rw [List.nodup_cons, List.nodup_append] at h
  simp only [List.mem_append, not_or] at h ⊢
  exact ⟨h.2.2.1, h.1.1, ⟨h.1.2.1, h.1.2.2⟩, fun x hx => ⟨fun hy => h.2.2.2 x hx x (.inl hy) rfl, fun hy => h.2.2.2 x hx x (.inr hy) rfl⟩, h'⟩

set_option maxHeartbeats 400000 in
theorem mayLeadP_any (g : Nat) (d s : Int) (p1 p2 p3 pu : Value) (u : PT) (w : World) (h : Blk w g 61 #[.int .i64 d, .int .i64 s, p1, p2, p3]) (hu : Lay w pu u) :
    Calls Try.prog 74 #[toBlk g, u.ptr] w fun e w' => e = .returned (.bool (u.tree.under d s)) ∧ Turned [] w w' := by
  have H := Lib.hid h
  have HU := Lib.hid hu
  clear h hu
  cases u with
  | nil =>
    simp only [PT.ptr, PT.adr, PT.tree, HTree.under]
    go_enter Try.func74, Try.ntmps74
    go_wp2
    go_ret
    exact ⟨rfl, Turned.refl _ _⟩
  | node g' d' s' l r =>
    simp only [PT.ptr, PT.adr, PT.tree, HTree.under]
    go_enter Try.func74, Try.ntmps74
    go_wp2_with fail
    have BU := Lib.hid HU.out.1
    with_reducible refine (aheadP_any g g' d s d' s' _ _ _ _ _ _ w H.out BU.out).mono ?_
    rintro e w1 ⟨rfl, t1⟩
    have T1 := Lib.hid t1
    clear t1
    go_wp2
    go_ret
    exact ⟨rfl, T1.out⟩

set_option maxHeartbeats 800000 in
theorem aloneP_any (g : Nat) (d s : Int) (p1 p2 p3 : Value) (w : World) (h : Blk w g 61 #[.int .i64 d, .int .i64 s, p1, p2, p3]) :
    Calls Try.prog 68 #[toBlk g] w fun e w' => e = .returned (.agg #[.int .i64 d, .int .i64 s, .int .i64 0]) ∧ Kept 0 0 w w' := by
  have c0 : w.cell? ⟨g, 0, none⟩ = some (.int .i64 d) := h.cell 0
  have c1 : w.cell? ⟨g, 1, none⟩ = some (.int .i64 s) := h.cell 1
  have hg := h.lt
  have hg' : g ≠ w.heap.size := by omega
  clear h
  go_enter Try.func68, Try.ntmps68
  go_wp2
  go_region
  all_goals go_wp2
  all_goals refine bodyPost_ret (v := .agg #[.int .i64 d, .int .i64 s, .int .i64 0]) (by simp [results, Try.results68, go_sem]) rfl ⟨rfl, ?_⟩
  all_goals exact ((Kept.refl 0 0 w).alloc _).drew

/-- Looking for an element, in a heap of at most n elements. -/
def FindDoes (n : Nat) : Prop := ∀ (t : PT) (q : Int) (c : List Step) (par : Value) (w : World), t.size ≤ n → Lay w par t →
  Calls Try.prog 47 #[t.ptr, .int .i64 q] w fun e w' => e = .returned (.pointer (foundAt (findP t q c))) ∧ w = w'
theorem FindDoes.at_ {n : Nat} (h : FindDoes n) (t : PT) (q : Int) (c : List Step) (par : Value) (w : World) (h1 : t.size ≤ n) (h2 : Lay w par t) :
  Calls Try.prog 47 #[t.ptr, .int .i64 q] w fun e w' => e = .returned (.pointer (foundAt (findP t q c))) ∧ w = w' := h t q c par w h1 h2
set_option maxHeartbeats 400000 in
theorem find_nil (q : Int) (w : World) : Calls Try.prog 47 #[.pointer none, .int .i64 q] w fun e w' => e = .returned (.pointer none) ∧ w = w' := by
  go_enter Try.func47, Try.ntmps47
  go_wp2_with fail
  go_ret
  exact ⟨rfl, rfl⟩
theorem findP_adr (t : PT) (q : Int) (c : List Step) : foundAt (findP t q c) = none ∨ ∃ g, foundAt (findP t q c) = some ⟨g, 0, none⟩ := by
  cases h : findP t q c with
  | none => exact .inl rfl
  | some x =>
    obtain ⟨_, g, d, s, l, r, e⟩ := findP_plug t q c x h
    exact .inr ⟨g, by simp [foundAt, e, PT.adr]⟩
theorem ret_ptr {a b : Option Addr} (h : a = b) : Ending.returned (.pointer a) = .returned (.pointer b) := by rw [h]
set_option maxHeartbeats 800000 in
theorem find_node {n : Nat} (ih : FindDoes n) (g : Nat) (d s : Int) (l r : PT) (q : Int) (c : List Step) (par : Value) (w : World) (hn : (PT.node g d s l r).size ≤ n + 1) (h : Lay w par (.node g d s l r)) :
    Calls Try.prog 47 #[toBlk g, .int .i64 q] w fun e w' => e = .returned (.pointer (foundAt (findP (.node g d s l r) q c))) ∧ w = w' := by
  have c1 : w.cell? ⟨g, 1, none⟩ = some (.int .i64 s) := h.1.cell 1
  have c3 : w.cell? ⟨g, 3, none⟩ = some l.ptr := h.1.cell 3
  have c4 : w.cell? ⟨g, 4, none⟩ = some r.ptr := h.1.cell 4
  have HL := Lib.hid h.2.1
  have HR := Lib.hid h.2.2
  have IH := Lib.hid ih
  have n1 : l.size ≤ n := by simp only [PT.size] at hn; omega
  have n2 : r.size ≤ n := by simp only [PT.size] at hn; omega
  clear h ih hn
  by_cases hs : s = q
  · have E : Hid (foundAt (findP (.node g d s l r) q c) = some ⟨g, 0, none⟩) := by show _ = _; simp only [findP, if_pos hs]; rfl
    have g1 : (s == q) = true := by simpa using hs
    clear hs
    go_enter Try.func47, Try.ntmps47
    go_wp2_with fail
    go_ret
    exact ⟨ret_ptr E.out.symm, rfl⟩
  · have g1 : (s == q) = false := by simpa using hs
    have CL := Lib.hid (IH.out.at_ l q (⟨g, d, s, true, r⟩ :: c) _ w n1 HL.out)
    have CR := Lib.hid (IH.out.at_ r q (⟨g, d, s, false, l⟩ :: c) _ w n2 HR.out)
    rcases findP_adr l q (⟨g, d, s, true, r⟩ :: c) with e0 | ⟨gf, e0⟩
    · have e1 := (foundAt_none _ _ _).1 e0
      have E : Hid (foundAt (findP (.node g d s l r) q c) = foundAt (findP r q (⟨g, d, s, false, l⟩ :: c))) := by show _ = _; simp only [findP, if_neg hs, e1]
      rw [e0] at CL
      clear e0 e1 hs
      go_enter Try.func47, Try.ntmps47
      go_wp2_with fail
      with_reducible refine CL.out.mono ?_
      rintro e w' ⟨rfl, rfl⟩
      go_wp2_with fail
      with_reducible refine CR.out.mono ?_
      rintro e w' ⟨rfl, rfl⟩
      go_wp2_with fail
      go_ret
      exact ⟨ret_ptr E.out.symm, rfl⟩
    · have E : Hid (foundAt (findP (.node g d s l r) q c) = some ⟨gf, 0, none⟩) := by
        show _ = _
        simp only [findP, if_neg hs]
        cases hf : findP l q (⟨g, d, s, true, r⟩ :: c) with
        | none => rw [hf] at e0; cases e0
        | some x => rw [hf] at e0; exact e0
      rw [e0] at CL
      clear e0 hs
      go_enter Try.func47, Try.ntmps47
      go_wp2_with fail
      with_reducible refine CL.out.mono ?_
      rintro e w' ⟨rfl, rfl⟩
      go_wp2_with fail
      go_ret
      exact ⟨ret_ptr E.out.symm, rfl⟩
theorem find_does (n : Nat) : FindDoes n := by
  induction n with
  | zero =>
    intro t q c par w hn h
    cases t with
    | nil => exact find_nil q w
    | node => simp [PT.size] at hn
  | succ n ih =>
    intro t q c par w hn h
    cases t with
    | nil => exact find_nil q w
    | node g d s l r => exact find_node ih g d s l r q c par w hn h
theorem findP_any (t : PT) (q : Int) (c : List Step) (par : Value) (w : World) (h : Lay w par t) :
    Calls Try.prog 47 #[t.ptr, .int .i64 q] w fun e w' => e = .returned (.pointer (foundAt (findP t q c))) ∧ w = w' := (find_does t.size).at_ t q c par w (Nat.le_refl _) h

/-- What the union of two linked heaps returns. -/
def UnionPost (a b : PT) (w : World) (e : Ending) (w' : World) : Prop := e = .returned (mergeP a b).ptr ∧ (∃ par, Lay w' par (mergeP a b)) ∧ Turned (a.blocks ++ b.blocks) w w'
def UnionDoes (n : Nat) : Prop := ∀ (a b : PT) (pa pb : Value) (w : World), a.size + b.size ≤ n → n ≤ 1000 → Lay w pa a → Lay w pb b → (a.blocks ++ b.blocks).Nodup → Calls Try.prog 37 #[a.ptr, b.ptr] w (UnionPost a b w)
theorem UnionDoes.at_ {n : Nat} (h : UnionDoes n) (a b : PT) (pa pb : Value) (w : World) (h1 : a.size + b.size ≤ n) (h2 : n ≤ 1000) (h3 : Lay w pa a) (h4 : Lay w pb b) (h5 : (a.blocks ++ b.blocks).Nodup) : Calls Try.prog 37 #[a.ptr, b.ptr] w (UnionPost a b w) := h a b pa pb w h1 h2 h3 h4 h5
set_option maxHeartbeats 400000 in
theorem union_left (b : PT) (pb : Value) (w : World) (h : Lay w pb b) : Calls Try.prog 37 #[.pointer none, b.ptr] w (UnionPost .nil b w) := by
  have H := Lib.hid h
  clear h
  go_enter Try.func37, Try.ntmps37
  go_wp2_with fail
  go_ret
  exact ⟨ret_ptr (by rw [mergeP_nil_left]), ⟨pb, by rw [mergeP_nil_left]; exact H.out⟩, Turned.refl _ _⟩
set_option maxHeartbeats 400000 in
theorem union_right (g : Nat) (d s : Int) (l r : PT) (pa : Value) (w : World) (h : Lay w pa (.node g d s l r)) : Calls Try.prog 37 #[toBlk g, .pointer none] w (UnionPost (.node g d s l r) .nil w) := by
  have H := Lib.hid h
  clear h
  go_enter Try.func37, Try.ntmps37
  go_wp2_with fail
  go_ret
  exact ⟨ret_ptr (by rw [mergeP_nil_right]; rfl), ⟨pa, by rw [mergeP_nil_right]; exact H.out⟩, Turned.refl _ _⟩

set_option maxHeartbeats 3200000 in
theorem union_node {n : Nat} (ih : UnionDoes n) (g g' : Nat) (d s d' s' : Int) (l r l' r' : PT) (pa pb : Value) (w : World) (hn : (PT.node g d s l r).size + (PT.node g' d' s' l' r').size ≤ n + 1) (hn2 : n + 1 ≤ 1000)
    (h1 : Lay w pa (.node g d s l r)) (h2 : Lay w pb (.node g' d' s' l' r')) (hnd : ((PT.node g d s l r).blocks ++ (PT.node g' d' s' l' r').blocks).Nodup) :
    Calls Try.prog 37 #[toBlk g, toBlk g'] w (UnionPost (.node g d s l r) (.node g' d' s' l' r') w) := by
  have HA := Lib.hid h1
  have HB := Lib.hid h2
  have IH := Lib.hid ih
  have ND := Lib.hid hnd
  clear h1 h2 ih hnd
  go_enter Try.func37, Try.ntmps37
  go_wp2_with fail
  have BA := Lib.hid HA.out.1
  have BB := Lib.hid HB.out.1
  with_reducible refine (aheadP_any g' g d' s' d s _ _ _ _ _ _ w BB.out BA.out).mono ?_
  rintro e w1 ⟨rfl, t1⟩
  have T1 := Lib.hid t1
  clear t1
  cases ha : aheadB ⟨d', s', 0⟩ ⟨d, s, 0⟩
  · have EM := Lib.hid (mergeP_node g d s l r g' d' s' l' r')
    rw [ha, if_neg (by simp)] at EM
    clear ha
    have TP := Lib.hid (HA.out.turned T1.out (by simp))
    have OT := Lib.hid (HB.out.turned T1.out (by simp))
    have c3 : w1.cell? ⟨g, 3, none⟩ = some l.ptr := TP.out.1.cell 3
    have c4 : w1.cell? ⟨g, 4, none⟩ = some r.ptr := TP.out.1.cell 4
    have NT := Lib.hid (nd_top (show ((g :: (l.blocks ++ r.blocks)) ++ (PT.node g' d' s' l' r').blocks).Nodup from ND.out))
    have PM := Lib.hid (mergeP_blocks r (PT.node g' d' s' l' r'))
    have hsz : r.size + (PT.node g' d' s' l' r').size ≤ n := by simp only [PT.size] at hn ⊢; omega
    have hrk : l.rank ≤ 1000 := by have := l.rank_size; simp only [PT.size] at hn; omega
    have hrm : (mergeP r (PT.node g' d' s' l' r')).rank ≤ 1000 := by have := (mergeP r (PT.node g' d' s' l' r')).rank_size; rw [mergeP_size] at this; simp only [PT.size] at hn this; omega
    have NJ : Hid ((g :: (l.blocks ++ (mergeP r (PT.node g' d' s' l' r')).blocks)).Nodup) := (List.Perm.nodup_iff (List.Perm.cons _ (List.Perm.append_left _ PM.out))).2 NT.out.2.2.2.2
    go_wp2_with fail
    go_region_with (first
      | (go_at_call 37; refine (IH.out.at_ r (PT.node g' d' s' l' r') _ _ _ hsz (by omega) (by exact TP.out.2.2.drew) (by exact OT.out.drew) NT.out.1).mono ?_; rintro e w2 ⟨rfl, ⟨par2, l2⟩, t2⟩; have T2 := Lib.hid (((Turned.refl [] w1).drew.mono (by simp)).trans t2); have L2 := Lib.hid l2; have B2 := Lib.hid (TP.out.1.turned T2.out NT.out.2.2.1); have c3' : w2.cell? ⟨g, 3, none⟩ = some l.ptr := B2.out.cell 3; clear l2 t2)
      | (go_at_call 54; refine (joinP_any g d s _ _ _ l (mergeP r (PT.node g' d' s' l' r')) (toBlk g) par2 _ B2.out (TP.out.2.1.turned T2.out NT.out.2.2.2.1) L2.out NJ.out hrk hrm).mono ?_; rintro e w3 ⟨rfl, l3, t3⟩; have T3 := Lib.hid t3; have L3 := Lib.hid l3; clear l3 t3))
    all_goals go_wp2_with fail
    all_goals go_ret
    all_goals (refine ⟨ret_ptr (by rw [EM.out, joinP_adr]), ⟨_, by rw [EM.out]; exact L3.out⟩, ((T1.out.mono (by simp)).trans (T2.out.mono ?_)).trans (T3.out.mono ?_)⟩)
    all_goals (intro x hx; simp only [List.mem_cons, List.mem_append, PM.out.mem_iff] at hx; simp only [PT.blocks, List.mem_cons, List.mem_append] at hx ⊢; first | (simp only [or_assoc, or_left_comm] at hx ⊢; first | exact hx | (rcases hx with h | h | h | h | h | h <;> simp [h]; done) | (rcases hx with h | h | h | h <;> simp [h]; done)) | (simp only [or_assoc, or_left_comm, or_comm] at hx ⊢; first | exact hx | (rcases hx with h | h | h | h | h | h <;> simp [h]) | (rcases hx with h | h | h | h <;> simp [h])))
  · have EM := Lib.hid (mergeP_node g d s l r g' d' s' l' r')
    rw [ha, if_pos rfl] at EM
    clear ha
    have TP := Lib.hid (HB.out.turned T1.out (by simp))
    have OT := Lib.hid (HA.out.turned T1.out (by simp))
    have c3 : w1.cell? ⟨g', 3, none⟩ = some l'.ptr := TP.out.1.cell 3
    have c4 : w1.cell? ⟨g', 4, none⟩ = some r'.ptr := TP.out.1.cell 4
    have NT := Lib.hid (nd_top (show ((g' :: (l'.blocks ++ r'.blocks)) ++ (PT.node g d s l r).blocks).Nodup from (List.Perm.nodup_iff List.perm_append_comm).1 ND.out))
    have PM := Lib.hid (mergeP_blocks r' (PT.node g d s l r))
    have hsz : r'.size + (PT.node g d s l r).size ≤ n := by simp only [PT.size] at hn ⊢; omega
    have hrk : l'.rank ≤ 1000 := by have := l'.rank_size; simp only [PT.size] at hn; omega
    have hrm : (mergeP r' (PT.node g d s l r)).rank ≤ 1000 := by have := (mergeP r' (PT.node g d s l r)).rank_size; rw [mergeP_size] at this; simp only [PT.size] at hn this; omega
    have NJ : Hid ((g' :: (l'.blocks ++ (mergeP r' (PT.node g d s l r)).blocks)).Nodup) := (List.Perm.nodup_iff (List.Perm.cons _ (List.Perm.append_left _ PM.out))).2 NT.out.2.2.2.2
    go_wp2_with fail
    go_region_with (first
      | (go_at_call 37; refine (IH.out.at_ r' (PT.node g d s l r) _ _ _ hsz (by omega) (by exact TP.out.2.2.drew) (by exact OT.out.drew) NT.out.1).mono ?_; rintro e w2 ⟨rfl, ⟨par2, l2⟩, t2⟩; have T2 := Lib.hid (((Turned.refl [] w1).drew.mono (by simp)).trans t2); have L2 := Lib.hid l2; have B2 := Lib.hid (TP.out.1.turned T2.out NT.out.2.2.1); have c3' : w2.cell? ⟨g', 3, none⟩ = some l'.ptr := B2.out.cell 3; clear l2 t2)
      | (go_at_call 54; refine (joinP_any g' d' s' _ _ _ l' (mergeP r' (PT.node g d s l r)) (toBlk g') par2 _ B2.out (TP.out.2.1.turned T2.out NT.out.2.2.2.1) L2.out NJ.out hrk hrm).mono ?_; rintro e w3 ⟨rfl, l3, t3⟩; have T3 := Lib.hid t3; have L3 := Lib.hid l3; clear l3 t3))
    all_goals go_wp2_with fail
    all_goals go_ret
    all_goals (refine ⟨ret_ptr (by rw [EM.out, joinP_adr]), ⟨_, by rw [EM.out]; exact L3.out⟩, ((T1.out.mono (by simp)).trans (T2.out.mono ?_)).trans (T3.out.mono ?_)⟩)
    all_goals (intro x hx; simp only [List.mem_cons, List.mem_append, PM.out.mem_iff] at hx; simp only [PT.blocks, List.mem_cons, List.mem_append] at hx ⊢; first | (simp only [or_assoc, or_left_comm] at hx ⊢; first | exact hx | (rcases hx with h | h | h | h | h | h <;> simp [h]; done) | (rcases hx with h | h | h | h <;> simp [h]; done)) | (simp only [or_assoc, or_left_comm, or_comm] at hx ⊢; first | exact hx | (rcases hx with h | h | h | h | h | h <;> simp [h]) | (rcases hx with h | h | h | h <;> simp [h])))

theorem union_does (n : Nat) : UnionDoes n := by
  induction n with
  | zero =>
    intro a b pa pb w hn hn2 h1 h2 hnd
    cases a with
    | nil => exact union_left b pb w h2
    | node => simp [PT.size] at hn
  | succ n ih =>
    intro a b pa pb w hn hn2 h1 h2 hnd
    cases a with
    | nil => exact union_left b pb w h2
    | node g d s l r =>
      cases b with
      | nil => exact union_right g d s l r pa w h1
      | node g' d' s' l' r' => exact union_node ih g g' d s d' s' l r l' r' pa pb w hn hn2 h1 h2 hnd
theorem unionP_any (a b : PT) (pa pb : Value) (w : World) (hn : a.size + b.size ≤ 1000) (h1 : Lay w pa a) (h2 : Lay w pb b) (hnd : (a.blocks ++ b.blocks).Nodup) :
    Calls Try.prog 37 #[a.ptr, b.ptr] w (UnionPost a b w) := union_does _ a b pa pb w (Nat.le_refl _) hn h1 h2 hnd
end Go.Proofs.Ytnphjohmkjoefaa
