/- The program's Stopped and Reset; no condition beyond that the timers can be read. -/
import Derived.Test.YtnphjohmkjoefaaQj
namespace Go.Proofs.Ytnphjohmkjoefaa
open Go.RowKit Go.Sort

/-! ### On paper -/
theorem heapOk_of {t : HTree} (ho : t.ok = true) (hu : uniq t) (hs : t.size ≤ 64) : heapOkB t.pre = true := by
  refine heapOk_iff.2 ⟨by rw [HTree.pre_len]; exact hs, ?_, by rw [rankL_pre t ho]; omega⟩
  unfold uniq at hu
  rw [seqs_pre] at hu
  simpa [twiceB] using hu
theorem disarm_same {x : Tm} (h : x.armed = false) : disarm x = x := by unfold disarm; rw [← h]
theorem armedAt_at {T : Tms} {q : Int} {k : Nat} (h : atL T.list q = some k) (hk : k < T.list.length) : armedAt T q = T.list[k].armed := by simp [armedAt, h, List.getElem?_eq_getElem hk]
/-- What a heap is without the element of a Seq. -/
structure Less (T : Tms) (q : Int) (t : PT) : Prop where
  pre : t.tree.pre = withoutL T.heap q
  ok : t.tree.ok = true
  size : t.size + 1 ≤ 64
  heap : heapOkB (withoutL T.heap q) = true
  gone : ∀ y ∈ withoutL T.heap q, y.seq ≠ q
theorem Less.of {T : Tms} {q : Int} {t : PT} (h1 : t.tree.pre = withoutL T.heap q) (h2 : t.tree.ok = true) (h3 : t.size + 1 ≤ 64) (h4 : uniq t.tree) (h5 : ∀ y ∈ t.tree.els, y.seq ≠ q) : Less T q t := by
  refine ⟨h1, h2, h3, by rw [← h1]; exact heapOk_of h2 h4 (by rw [PT.size_tree]; omega), ?_⟩
  intro y hy
  rw [← h1] at hy
  have := h5 (zero y) (by rw [els_pre]; exact List.mem_map.2 ⟨y, hy, rfl⟩)
  exact this
theorem less_armed {T : Tms} {q : Int} {t : PT} (o : TmsOk T) (hp : t.tree.pre = T.heap) (hok : t.tree.ok = true) {c : List Step} {g : Nat} {d s : Int} {l r : PT} (hf : findP t q [] = some (c, .node g d s l r)) : Less T q (plugJ c (mergeP l r)) := by
  have hu : uniq t.tree := uniq_pre (by rw [hp]; exact (heapOk_iff.1 o.heap).2.1)
  have ht : treeOf T.heap = t.tree := by rw [← hp]; exact treeOf_of _ hok
  have h := findP_without t q [] hok hu
  rw [hf] at h
  obtain ⟨h1, u, h2, h3⟩ := h
  simp only [leftOver, plugJ] at h2
  have h64 : t.tree.size ≤ 64 := by rw [← HTree.pre_len, hp]; exact (heapOk_iff.1 o.heap).1
  have hs := without_size t.tree q hok hu h1
  have he := without_els t.tree q hok hu
  rw [h2]
  refine Less.of ?_ ?_ ?_ ?_ ?_
  · rw [withoutL, o.heap, if_pos rfl, ht, h1, if_pos rfl, h3]
  · rw [h3]; exact without_ok _ _ hok hu
  · rw [← PT.size_tree, h3]; omega
  · rw [h3]
    unfold uniq at hu ⊢
    rw [List.Perm.nodup_iff (he.map Tw.seq)]
    exact List.Nodup.sublist (List.Sublist.map _ List.filter_sublist) hu
  · intro y hy
    rw [h3] at hy
    have := he.mem_iff.1 hy
    simp at this
    exact this.2
theorem less_off {T : Tms} {q : Int} {t : PT} (o : TmsOk T) (hp : t.tree.pre = T.heap) (hok : t.tree.ok = true) {k : Nat} (hk : k < T.list.length) (hs : T.list[k].seq = q) (ha : T.list[k].armed = false) : Less T q t := by
  have hu : uniq t.tree := uniq_pre (by rw [hp]; exact (heapOk_iff.1 o.heap).2.1)
  have ht : treeOf T.heap = t.tree := by rw [← hp]; exact treeOf_of _ hok
  have hg : ∀ y ∈ T.heap, y.seq ≠ q := by
    intro y hy e
    obtain ⟨x, hx, e1, e2, _⟩ := o.armed y hy
    obtain ⟨j, hj, rfl⟩ := List.getElem_of_mem hx
    obtain rfl := rise_same o.rise hj hk (by rw [e1, e, hs])
    rw [ha] at e2
    cases e2
  have hg' : ∀ y ∈ t.tree.els, y.seq ≠ q := by
    intro y hy
    rw [els_pre, hp] at hy
    obtain ⟨z, hz, rfl⟩ := List.mem_map.1 hy
    exact hg z hz
  have hw := without_not t.tree q hok hg'
  have hl : T.heap.length < T.list.length := by
    rw [← o.count]
    exact List.length_filter_lt_length_iff_exists.2 ⟨T.list[k], List.getElem_mem hk, by simp [ha]⟩
  have hsz : t.size = T.heap.length := by rw [← hp, HTree.pre_len, PT.size_tree]
  refine Less.of ?_ hok (by have := o.len; omega) hu hg'
  rw [withoutL, o.heap, if_pos rfl, ht, hw]
  simp [hp]
/-- What disarming gives. -/
def OffPost (T : Tms) (q : Int) (W w1 : World) (b d : Nat) (D : Option Addr) (zs : List Tr) (k : Nat) (e : Ending) (w2 : World) : Prop :=
  e = .returned (.bool (armedAt T q)) ∧ (∃ t g, Alm w2 W.heap.size b (.pointer none) t D d zs T.next ∧ Less T q t ∧ (zs.map Tr.x = T.list.modify k disarm) ∧ zs[k]? = some g ∧ g.x = disarm (T.list.getD k zeroTm)) ∧ Fr W.heap.size w1 w2 ∧ Rest w1 w2
theorem offM {T : Tms} {q : Int} {W w1 : World} {b d k : Nat} {t : PT} {D : Option Addr} {zs : List Tr} (M : MadeA T W w1 b t D d zs) (hq : atL T.list q = some k) (hz : k < zs.length) :
    Calls Try.prog 19 #[toBlk b, toBlk zs[k].p] w1 (fun e w2 => OffPost T q W w1 b d D (zs.set k ⟨zs[k].p, zs[k].e, disarm zs[k].x⟩) k e w2) := by
  obtain ⟨hkl, hks⟩ := atL_some hq
  obtain ⟨hz', ez⟩ := map_at M.eq hkl
  have em := map_off M.eq hkl zs[k].p zs[k].e disarm
  rw [← ez] at em
  have eg : (zs.set k ⟨zs[k].p, zs[k].e, disarm zs[k].x⟩)[k]? = some ⟨zs[k].p, zs[k].e, disarm zs[k].x⟩ := by simp [hz]
  have ex : disarm zs[k].x = disarm (T.list.getD k zeroTm) := by rw [ez]; simp [List.getD, List.getElem?_eq_getElem hkl]
  have ea := armedAt_at hq hkl
  cases ha : zs[k].x.armed
  · have hs : zs.set k ⟨zs[k].p, zs[k].e, disarm zs[k].x⟩ = zs := by
      rw [disarm_same ha]
      apply List.ext_getElem
      · simp
      · intro j h1 h2
        rw [List.getElem_set]
        split
        · rename_i hjk; subst hjk; rfl
        · rfl
    refine (disarm_not w1 b zs[k] (M.alm.get hz) ha).mono ?_
    rintro e w2 ⟨rfl, rfl⟩
    refine ⟨by rw [ea, ← ez, ha], ⟨t, _, by rw [hs]; exact M.alm, less_off M.ok M.pre M.tok hkl hks (by rw [← ez]; exact ha), em, eg, ex⟩, Fr.refl _ _, fun _ _ _ _ _ _ hb => hb⟩
  · obtain ⟨c, l, r, hf⟩ := M.inT zs[k] (List.getElem_mem hz) ha
    have hsm : t.size ≤ 1000 := by
      have := (heapOk_iff.1 M.ok.heap).1
      rw [← M.pre, HTree.pre_len, PT.size_tree] at this
      omega
    refine (disarm_at w1 W.heap.size b d t D zs T.next M.alm k zs[k] (List.getElem?_eq_getElem hz) ha c l r hf hsm).mono ?_
    rintro e w2 ⟨rfl, a2, fr, rs⟩
    have hf' : findP t q [] = some (c, .node zs[k].e zs[k].x.due zs[k].x.seq l r) := by rw [← hks, ← ez]; exact hf
    exact ⟨by rw [ea, ← ez, ha], ⟨_, _, a2, less_armed M.ok M.pre M.tok hf', em, eg, ex⟩, fr, rs⟩

/-! ### The changes -/
set_option maxHeartbeats 800000 in
theorem reset1 {T : Tms} {q due : Int} {W w w1 : World} {b d k cb : Nat} {t : PT} {D : Option Addr} {zs : List Tr} (hw : Kept 0 0 w W) (hc : w.cell? ⟨cb, 0, none⟩ = some (.int .i64 due)) (M : MadeA T W w1 b t D d zs) (hq : atL T.list q = some k) (hz : k < zs.length) :
    Calls Try.prog 18 #[toBlk b, toBlk zs[k].p, .pointer (some ⟨cb, 0, none⟩)] w1 (ChgPost T W w1 b ⟨putL (withoutL T.heap q) due q, T.list.modify k (rearm due), T.next⟩ (armedAt T q)) := by
  have CO := Lib.hid (offM M hq hz)
  obtain ⟨hkl, hks⟩ := atL_some hq
  have zl : (zs.set k ⟨zs[k].p, zs[k].e, disarm zs[k].x⟩).length ≤ 64 := by have := M.ok.len; rw [← M.eq] at this; simpa using this
  have ZL := Lib.hid zl
  have KW := Lib.hid M.kept
  have HC := Lib.hid (cell_kept hw hc)
  have HK := Lib.hid hks
  obtain ⟨hz', ez⟩ := map_at M.eq hkl
  have EZ := Lib.hid ez
  have HE := Lib.hid M.eq
  clear zl M hks hc ez
  go_enter Try.func18, Try.ntmps18
  go_wp2_with fail
  with_reducible refine CO.out.mono ?_
  rintro e w2 ⟨rfl, ⟨t2, g2, a2, ls, em, eg, ex⟩, fr, rs⟩
  have A2 := Lib.hid a2
  have LS := Lib.hid ls
  have FR := Lib.hid fr
  have c2 : w2.cell? ⟨cb, 0, none⟩ = some (.int .i64 due) := cell_kept (fr W (Nat.le_refl _) KW.out) HC.out
  have gp : g2 = ⟨zs[k].p, zs[k].e, disarm zs[k].x⟩ := by
    have h0 : (zs.set k ⟨zs[k].p, zs[k].e, disarm zs[k].x⟩)[k]? = some ⟨zs[k].p, zs[k].e, disarm zs[k].x⟩ := by simp [hz]
    rw [eg] at h0
    injection h0
  have CA := Lib.hid (arm_at w2 W.heap.size b d _ t2 D _ T.next due a2 k g2 eg (by have := ls.size; omega))
  rw [gp] at CA
  have sq : Hid ((disarm zs[k].x).seq = q) := by show _ = _; rw [EZ.out]; exact HK.out
  clear a2 ls em fr CO eg ex gp
  go_wp2_with fail
  with_reducible refine CA.out.mono ?_
  rintro e w3 ⟨rfl, ⟨par3, a3⟩, fr3⟩
  have A3 := Lib.hid a3
  have FR3 := Lib.hid (FR.out.trans fr3)
  clear a3 fr3 CA c2
  go_wp2_with fail
  go_ret
  refine ⟨rfl, par3, _, D, d, _, A3.out, (by have := ZL.out; simpa using this), ?_, ?_, FR3.out⟩
  · rw [mergeP_size]; have := LS.out.size; simp [oneP, PT.size]; omega
  · have e1 : rearm due (disarm zs[k].x) = rearm due T.list[k] := by rw [EZ.out]; rfl
    have e2 := map_off HE.out hkl zs[k].p w2.heap.size (rearm due)
    rw [show (⟨zs[k].p, zs[k].e, disarm zs[k].x⟩ : Tr).x.seq = q from sq.out, put_pre _ LS.out.pre LS.out.ok LS.out.heap (by have := LS.out.size; rw [← LS.out.pre, HTree.pre_len, PT.size_tree]; exact this) LS.out.gone, List.set_set]
    simp only [e1]
    rw [e2]
theorem chgL_stop (T : Tms) (q : Int) : chgL T q (fun k => ⟨withoutL T.heap q, T.list.modify k disarm, T.next⟩) = stopL T q := by
  unfold chgL stopL stoppedT
  cases timersOkB T
  · rfl
  · cases atL T.list q <;> rfl
theorem chgB_at (T : Tms) (q : Int) : chgB T q (fun _ => armedAt T q) = (timersOkB T && armedAt T q) := by
  unfold chgB armedAt
  cases atL T.list q <;> simp
theorem chgL_reset (T : Tms) (q due : Int) : chgL T q (fun k => ⟨putL (withoutL T.heap q) due q, T.list.modify k (rearm due), T.next⟩) = resetL T q due := by
  unfold chgL resetL resetT
  cases timersOkB T
  · rfl
  · cases atL T.list q <;> rfl
theorem changedReset (cb : Nat) (T : Tms) (q due : Int) (v : Value) (w : World) (h : RdM w w.heap.size v T) (hc : w.cell? ⟨cb, 0, none⟩ = some (.int .i64 due)) :
    Calls Try.prog 17 #[v, .int .i64 q, .func (.func 18) #[] #[.pointer (some ⟨cb, 0, none⟩)]] w fun e w' => ∃ u, e = .returned (.tuple #[u, .bool (resetB T q due)]) ∧ OwnM w' w.heap.size w'.heap.size u (resetL T q due) ∧ Kept 0 0 w w' := by
  have := changedR cb T q (fun k => ⟨putL (withoutL T.heap q) due q, T.list.modify k (rearm due), T.next⟩) (fun _ => armedAt T q) v w h (fun W w1 b t D d zs k hw M hq hz => reset1 hw hc M hq hz)
  rw [chgL_reset, chgB_at] at this
  exact this

set_option maxHeartbeats 800000 in
theorem implReset : DoesMII 6 resetL resetB := by
  intro T q due v w h
  obtain ⟨hv, lv, rfl, ⟨A1, c1, rfl, s2⟩, ⟨A2, c2, rfl, s3⟩⟩ := h
  have H : Hid (RdM w w.heap.size (.agg #[.slice A1 T.heap.length c1, .slice A2 T.list.length c2, .int .i64 T.next]) T) := ⟨_, _, rfl, ⟨A1, c1, rfl, s2⟩, ⟨A2, c2, rfl, s3⟩⟩
  obtain ⟨W, hW⟩ : ∃ W, W = ((w.alloc (.cells #[.slice A1 T.heap.length c1, .slice A2 T.list.length c2, .int .i64 T.next] 27)).alloc (.cells #[.int .i64 due] 2)).alloc (.cells #[.slice none 0 0, .slice none 0 0, .int .i64 0] 27) := ⟨_, rfl⟩
  have KV : Hid (Kept 0 0 w W) := by show Kept _ _ _ _; rw [hW]; exact ((Kept.alloc0 _ _).alloc _).alloc _
  have R0 : Hid (Blk W (w.heap.size + 1 + 1) 27 #[.slice none 0 0, .slice none 0 0, .int .i64 0]) := by show Blk _ _ _ _; rw [hW]; have := Blk.new ((w.alloc (.cells #[.slice A1 T.heap.length c1, .slice A2 T.list.length c2, .int .i64 T.next] 27)).alloc (.cells #[.int .i64 due] 2)) 27 #[.slice none 0 0, .slice none 0 0, .int .i64 0]; simpa using this
  have CB : Hid (W.cell? ⟨w.heap.size + 1, 0, none⟩ = some (.int .i64 due)) := by show _ = _; rw [hW]; have := ((blk2_new w (.cells #[.slice A1 T.heap.length c1, .slice A2 T.list.length c2, .int .i64 T.next] 27) 2 #[.int .i64 due]).alloc (.cells #[.slice none 0 0, .slice none 0 0, .int .i64 0] 27)).cell 0; simpa using this
  have zW : w.heap.size + 3 ≤ W.heap.size := by rw [hW]; simp
  have CC := Lib.hid (changedReset (w.heap.size + 1) T q due _ W (H.out.up KV.out) CB.out)
  have HW := Lib.hid hW
  have hmf : ∀ (fn : Fn) (first cap : Array Value) (w : World), (Instr.makeFunc fn first cap).run Try.prog w = .ok (.func fn first cap) w := fun _ _ _ _ => rfl
  clear s2 s3 hW
  go_enter Try.func6, Try.ntmps6
  go_wp2_with fail
  rw [← HW.out]
  with_reducible refine CC.out.mono ?_
  rintro e w9 ⟨u, rfl, ⟨hv, lv, rfl, ⟨D1, d1, rfl, o1⟩, ⟨D2, d2, rfl, o2⟩⟩, hk⟩
  obtain ⟨Tn, hTn⟩ : ∃ Tn, Tn = resetL T q due := ⟨_, rfl⟩
  obtain ⟨bn, hbn⟩ : ∃ bn, bn = resetB T q due := ⟨_, rfl⟩
  rw [← hTn] at o1 o2 ⊢
  rw [← hbn]
  have O1 := Lib.hid o1
  have O2 := Lib.hid o2
  have K9 := Lib.hid (KV.out.trans hk)
  have R9 := Lib.hid (R0.out.kept hk (.inl (Nat.le_refl _)))
  have y9 := hk.size
  have HT := Lib.hid hTn
  have HB := Lib.hid hbn
  clear o1 o2 hk CC hTn hbn
  have r0 := bx0 R9.out
  have r1 := bx1 R9.out
  have r2 := bx2 R9.out
  have f0 := R9.out.frozen 0
  have f1 := R9.out.frozen 1
  have f2 := R9.out.frozen 2
  have BF := blk3 R9.out (.slice D1 Tn.heap.length d1) (.slice D2 Tn.list.length d2) (.int .i64 Tn.next)
  have F0 := bx0 BF
  have F1 := bx1 BF
  have F2 := bx2 BF
  have KF := kept3 w9 (w.heap.size + 1 + 1) (.slice D1 Tn.heap.length d1) (.slice D2 Tn.list.length d2) (.int .i64 Tn.next)
  have KK := Lib.hid KF
  have zF := KF.size
  have FF := Lib.hid (And.intro F0 (And.intro F1 F2))
  clear BF KF F0 F1 F2
  go_wp2_with fail
  obtain ⟨F0, F1, F2⟩ := FF.out
  refine bodyPost_ret (v := .tuple #[.agg #[.slice D1 Tn.heap.length d1, .slice D2 Tn.list.length d2, .int .i64 Tn.next], .bool bn]) (by simp [results, Try.results6, go_sem, F0, F1, F2]) rfl ⟨_, ret_ub HB.out, ?_, K9.out.trans2 KK.out (.inr (by omega))⟩
  rw [← HT.out]
  exact ⟨_, _, rfl, ⟨D1, d1, rfl, (O1.out.kept KK.out (.inr (.inr (by omega)))).wide (by omega) zF⟩, ⟨D2, d2, rfl, (O2.out.kept KK.out (.inr (.inr (by omega)))).wide (by omega) zF⟩⟩
end Go.Proofs.Ytnphjohmkjoefaa
