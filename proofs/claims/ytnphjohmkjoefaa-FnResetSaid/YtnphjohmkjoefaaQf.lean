/- The program's disarming and arming of a timer; no condition beyond that the timers lie in memory. -/
import Derived.Test.YtnphjohmkjoefaaQe
namespace Go.Proofs.Ytnphjohmkjoefaa
open Go.RowKit Go.Sort

/-- What lies below lo for a world of before stays. -/
def Fr (lo : Nat) (w w' : World) : Prop := ∀ K : World, K.heap.size ≤ lo → Kept 0 0 K w → Kept 0 0 K w'
theorem Fr.refl (lo : Nat) (w : World) : Fr lo w w := fun _ _ h => h
theorem Fr.trans {lo : Nat} {w w' w'' : World} (h : Fr lo w w') (k : Fr lo w' w'') : Fr lo w w'' := fun K hK hk => k K hK (h K hK hk)
theorem Fr.set_ {lo : Nat} (w : World) {g : Nat} (hg : lo ≤ g) (i : Nat) (u : Value) : Fr lo w (w.setCell ⟨g, i, none⟩ u) := fun _ hK hk => hk.setCell (.inl (Nat.le_trans hK hg)) _
theorem Fr.kept {lo : Nat} {w w' : World} (h : Kept 0 0 w w') : Fr lo w w' := fun _ _ hk => hk.trans h
theorem Fr.turned {lo : Nat} {w w' : World} {S : List Nat} (h : Turned S w w') (hS : ∀ x ∈ S, lo ≤ x) : Fr lo w w' := fun _ hK hk => hk.turned h (fun x hx => Nat.le_trans hK (hS x hx))
section
variable {w w' : World} {lo b d : Nat} {par : Value} {t : PT} {D : Option Addr} {zs : List Tr} {next : Int}
/-- A timer written over. -/
theorem Alm.timer (h : Alm w lo b par t D d zs next) {k : Nat} (hk : k < zs.length) (i : Nat) (u : Value) (z : Tr) (hp : z.p = zs[k].p) (hz : TimAt (w.setCell ⟨zs[k].p, i, none⟩ u) z) : Alm (w.setCell ⟨zs[k].p, i, none⟩ u) lo b par t D d (zs.set k z) next := by
  have s := Beside.set_ (h.get hk).1 i u
  have e : (zs.set k z).map Tr.p = zs.map Tr.p := by
    rw [List.map_set, hp]
    apply List.ext_getElem
    · simp
    · intro j h1 h2
      rw [List.getElem_set]
      split
      · rename_i hjk
        subst hjk
        simp
      · rfl
  refine ⟨?_, ?_, ?_, by rw [e]; exact h.nd, h.lay.beside s (by decide), h.tnd, h.bnew, ?_, h.tnew⟩
  · rw [List.length_set]; exact s _ _ _ (by decide) h.blk
  · rw [e, List.length_set]; exact row_beside h.row s (by decide)
  · intro y hy
    obtain ⟨j, hj, rfl⟩ := List.getElem_of_mem hy
    rw [List.getElem_set]
    split
    · exact hz
    · rename_i hjk
      have hj' : j < zs.length := by simpa using hj
      have hy := h.get hj'
      have hne : zs[j].p ≠ zs[k].p := fun he => by
        rcases Nat.lt_or_gt_of_ne hjk with h1 | h1
        · exact (List.pairwise_iff_getElem.1 h.nd) k j (by simpa using hk) (by simpa using hj') h1 (by simpa using he.symm)
        · exact (List.pairwise_iff_getElem.1 h.nd) j k (by simpa using hj') (by simpa using hk) h1 (by simpa using he)
      exact ⟨hy.1.far hne u, hy.2.beside s (by decide)⟩
  · intro y hy
    obtain ⟨j, hj, rfl⟩ := List.getElem_of_mem hy
    rw [List.getElem_set]
    split
    · rw [hp]; exact h.pnew _ (List.getElem_mem hk)
    · exact h.pnew _ (List.getElem_mem _)
/-- Another heap. -/
theorem Alm.tree {w1 w2 : World} {U : PT} {par' : Value} {S : List Nat} (h : Alm w1 lo b par t D d zs next) (ht : Turned S w1 w2) (hS : ∀ g ∈ S, ∃ cs, Blk w1 g 61 cs) (hk : Keeps w1 w2) (hl : Lay w2 par' U) (hnd : U.blocks.Nodup) (hnew : ∀ g ∈ U.blocks, lo ≤ g) : Alm (w2.setCell ⟨b, 0, none⟩ U.ptr) lo b par' U D d zs next := by
  have s1 : Beside 61 w1 w2 := fun g ty cs hne hb => hb.turned ht (fun hg => by
    obtain ⟨cs', hb'⟩ := hS g hg
    exact blk_ne hb hb' (Ne.symm hne) rfl)
  have b2 := s1 _ _ _ (by decide) h.blk
  have s2 := Beside.set_ b2 0 U.ptr
  refine ⟨?_, row_beside (row_beside h.row s1 (by decide)) s2 (by decide), ?_, h.nd, hl.beside s2 (by decide), hnd, h.bnew, h.pnew, hnew⟩
  · have := b2.set_ 0 U.ptr
    simpa using this
  · intro z hz
    have hy := h.tim z hz
    exact ⟨s2 _ _ _ (by decide) (s1 _ _ _ (by decide) hy.1), (hk _ _ _ hy.2).beside s2 (by decide)⟩
theorem Lay.isEl : ∀ {t : PT} {par : Value}, Lay w par t → ∀ g ∈ t.blocks, ∃ cs, Blk w g 61 cs
  | .nil, _, _, g, hg => by simp [PT.blocks] at hg
  | .node _ _ _ l r, _, h, g, hg => by
    simp only [PT.blocks, List.mem_cons, List.mem_append] at hg
    rcases hg with rfl | hg | hg
    · exact ⟨_, h.1⟩
    · exact h.2.1.isEl g hg
    · exact h.2.2.isEl g hg
end

set_option maxHeartbeats 400000 in
theorem disarm_not (w : World) (b : Nat) (z : Tr) (h : TimAt w z) (ha : z.x.armed = false) :
    Calls Try.prog 19 #[toBlk b, toBlk z.p] w fun e w' => e = .returned (.bool false) ∧ w = w' := by
  have c3 : w.cell? ⟨z.p, 3, none⟩ = some (.bool false) := by have : w.cell? ⟨z.p, 3, none⟩ = some (.bool z.x.armed) := h.1.cell 3; rwa [ha] at this
  go_enter Try.func19, Try.ntmps19
  go_wp2
  go_ret
  exact ⟨rfl, rfl⟩

/-- The timer at place k, disarmed. -/
def offAt (zs : List Tr) (k : Nat) (hk : k < zs.length) : List Tr := zs.set k ⟨zs[k].p, zs[k].e, disarm zs[k].x⟩
/-- Blocks of other types stay as they are. -/
def Rest (w w' : World) : Prop := ∀ g ty cs, 70 ≠ ty → 61 ≠ ty → 57 ≠ ty → Blk w g ty cs → Blk w' g ty cs
def DisPost (w : World) (lo b d : Nat) (U : PT) (D : Option Addr) (zs : List Tr) (next : Int) (e : Ending) (w' : World) : Prop :=
  e = .returned (.bool true) ∧ Alm w' lo b (.pointer none) U D d zs next ∧ Fr lo w w' ∧ Rest w w'
set_option maxHeartbeats 1600000 in
theorem disarm_yes (w : World) (lo b d : Nat) (t : PT) (D : Option Addr) (zs : List Tr) (next : Int) (h : Alm w lo b (.pointer none) t D d zs next) (k : Nat) (hk : k < zs.length) (ha : zs[k].x.armed = true) (c : List Step) (l r : PT) (hf : findP t zs[k].x.seq [] = some (c, .node zs[k].e zs[k].x.due zs[k].x.seq l r)) (hs : t.size ≤ 1000) :
    Calls Try.prog 19 #[toBlk b, toBlk zs[k].p] w (DisPost w lo b d (plugJ c (mergeP l r)) D (offAt zs k hk) next) := by
  have hp := (findP_plug t _ [] _ hf).1
  simp only [plug] at hp
  have hz := h.get hk
  have c3 : w.cell? ⟨zs[k].p, 3, none⟩ = some (.bool true) := by have : w.cell? ⟨zs[k].p, 3, none⟩ = some (.bool zs[k].x.armed) := hz.1.cell 3; rwa [ha] at this
  have f3 := hz.1.frozen 3
  obtain ⟨V, hV⟩ : ∃ V, V = w.setCell ⟨zs[k].p, 3, none⟩ (.bool false) := ⟨_, rfl⟩
  have AV : Hid (Alm V lo b (.pointer none) t D d (offAt zs k hk) next) := by
    show Alm _ _ _ _ _ _ _ _ _
    rw [hV]
    refine h.timer hk 3 (.bool false) ⟨zs[k].p, zs[k].e, disarm zs[k].x⟩ rfl ⟨?_, hz.2.beside (Beside.set_ hz.1 3 _) (by decide)⟩
    have := hz.1.set_ 3 (.bool false)
    simpa [disarm] using this
  have FV : Hid (Fr lo w V) := by show Fr _ _ _; rw [hV]; exact Fr.set_ w (h.pnew _ (List.getElem_mem hk)) _ _
  have SV : Hid (Beside 70 w V) := by show Beside _ _ _; rw [hV]; exact Beside.set_ hz.1 3 _
  have c0 : w.cell? ⟨zs[k].p, 0, none⟩ = some (toBlk zs[k].e) := hz.1.cell 0
  have lv := AV.out.lay
  have nv := AV.out.tnd
  rw [← hp] at lv nv hs
  have CR := Lib.hid (removedP_out c zs[k].e zs[k].x.due zs[k].x.seq l r V lv nv hs)
  have LV := Lib.hid lv
  have NV := Lib.hid nv
  have HP := Lib.hid hp
  clear h hz hp lv nv
  go_enter Try.func19, Try.ntmps19
  go_wp2_with fail
  rw [← hV]
  clear hV c3 f3
  with_reducible refine CR.out.mono ?_
  rintro e w2 ⟨rfl, l2, t2⟩
  obtain ⟨U, hU⟩ : ∃ U, U = plugJ c (mergeP l r) := ⟨_, rfl⟩
  have sub : ∀ g ∈ (mergeP l r).blocks ++ wayBlocks c, g ∈ t.blocks := fun g hg => by rw [← HP.out]; exact rem_sub hg
  have pb := plugJ_blocks c (mergeP l r)
  have AT := Lib.hid (AV.out.tree t2 (fun g hg => AV.out.lay.isEl g (sub g hg)) (keeps_removed LV.out l2 t2) l2 ((List.Perm.nodup_iff pb).2 (by
      have h1 := (List.Perm.nodup_iff (plug_blocks c (.node zs[k].e zs[k].x.due zs[k].x.seq l r))).1 NV.out
      have h2 := (List.nodup_append.1 h1)
      refine List.nodup_append.2 ⟨(List.Perm.nodup_iff (mergeP_blocks l r)).2 (List.nodup_cons.1 h2.1).2, h2.2.1, ?_⟩
      intro a ha b hb e
      exact h2.2.2 a (by simp only [PT.blocks]; exact List.mem_cons_of_mem _ ((mergeP_blocks l r).mem_iff.1 ha)) b hb e)) (fun g hg => AV.out.tnew g (sub g (pb.mem_iff.1 hg))))
  have F2 := Lib.hid (FV.out.trans ((Fr.turned t2 (fun x hx => AV.out.tnew x (sub x hx))).trans (Fr.set_ w2 AV.out.bnew 0 U.ptr)))
  have s1 : Beside 61 V w2 := fun g ty cs hne hb => hb.turned t2 (fun hg => by
    obtain ⟨cs', hb'⟩ := AV.out.lay.isEl g (sub g hg)
    exact blk_ne hb hb' (Ne.symm hne) rfl)
  have b2 := s1 _ _ _ (by decide) AV.out.blk
  have r0 := bx0 b2
  have fr0 := b2.frozen 0
  have RR : Hid (Rest w (w2.setCell ⟨b, 0, none⟩ U.ptr)) := fun g ty cs n1 n2 n3 hb => Beside.set_ b2 0 U.ptr _ _ _ n3 (s1 _ _ _ n2 (SV.out _ _ _ n1 hb))
  rw [← hU] at AT ⊢
  have HU := Lib.hid hU
  clear l2 t2 c0 sub pb s1 b2 hU CR
  go_wp2_with fail
  go_ret
  exact ⟨rfl, by rw [← HU.out]; exact AT.out, F2.out, RR.out⟩
end Go.Proofs.Ytnphjohmkjoefaa
