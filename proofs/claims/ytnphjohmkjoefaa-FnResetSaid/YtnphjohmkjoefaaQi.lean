/- The program's Fired; no condition beyond that the timers can be read. -/
import Derived.Test.YtnphjohmkjoefaaQh
namespace Go.Proofs.Ytnphjohmkjoefaa
open Go.RowKit Go.Sort

theorem shift_pre {xs : List Tw} {g : Nat} {d s : Int} {l r : PT} (hp : (PT.node g d s l r).tree.pre = xs) (hok : (PT.node g d s l r).tree.ok = true) (ho : heapOkB xs = true) : shiftedL xs = (mergeP l r).tree.pre := by
  have hs : shiftOk xs = true := by rw [shiftOk, ho, ← hp]; rfl
  have ht : treeOf xs = (PT.node g d s l r).tree := by rw [← hp]; exact treeOf_of _ hok
  have hu : uniq (PT.node g d s l r).tree := uniq_pre (by rw [hp]; exact (heapOk_iff.1 ho).2.1)
  rw [shiftedL, if_pos hs, ht, mergeP_tree _ _ (uniq_node hu).2.2.1]
  rfl
theorem atL_mem {l : List Tm} {x : Tm} (hx : x ∈ l) : ∃ k, atL l x.seq = some k := by
  cases h : atL l x.seq with
  | some k => exact ⟨k, rfl⟩
  | none => exact absurd rfl (atL_none.1 h x hx)
/-- Where the root's timer is. -/
theorem root_at {T : Tms} (o : TmsOk T) {y : Tw} (hy : y ∈ T.heap) : ∃ k, atL T.list y.seq = some k ∧ ∃ hk : k < T.list.length, T.list[k].seq = y.seq ∧ T.list[k].armed = true ∧ T.list[k].due = y.due := by
  obtain ⟨x, hx, e1, e2, e3⟩ := o.armed y hy
  obtain ⟨k, hk⟩ := atL_mem hx
  obtain ⟨h1, h2⟩ := atL_some hk
  obtain ⟨j, hj, rfl⟩ := List.getElem_of_mem hx
  obtain rfl := rise_same o.rise h1 hj h2
  exact ⟨k, by rw [← e1]; exact hk, h1, e1, e2, e3⟩
theorem map_at {zs : List Tr} {l : List Tm} (h : zs.map Tr.x = l) {k : Nat} (hk : k < l.length) : ∃ hz : k < zs.length, zs[k].x = l[k] := by
  subst h
  exact ⟨by simpa using hk, by simp⟩
theorem map_off {zs : List Tr} {l : List Tm} (h : zs.map Tr.x = l) {k : Nat} (hk : k < l.length) (p e : Nat) (f : Tm → Tm) : (zs.set k ⟨p, e, f l[k]⟩).map Tr.x = l.modify k f := by
  rw [List.map_set, h, modify_set hk]

theorem Blk.sameW {W w1 w3 : World} {g : Nat} {t : TypeId} {cs : Array Value} (h : Blk w1 g t cs) (k1 : Kept 0 0 W w1) (k3 : Kept 0 0 W w3) (hg : g < W.heap.size) : Blk w3 g t cs :=
  (k3.block g hg (.inr (Nat.zero_le _))).trans ((k1.block g hg (.inr (Nat.zero_le _))).symm.trans h)
end Go.Proofs.Ytnphjohmkjoefaa
