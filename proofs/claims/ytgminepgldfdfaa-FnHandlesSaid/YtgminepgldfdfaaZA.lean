/- One append to a row of handles as a step of a region that draws its order, and the cells of a part of a row; no condition. -/
import Derived.Test.YtgminepgldfdfaaZ9
import Derived.Maps.AppendAt
namespace Go.Proofs.Ytgminepgldfdfaa
open Go.RowKit

theorem row_news {wr : World} {lo b f : Nat} {l : List (Int × Int)} (h : wr.ownsRow lo 36 2 (.slice (some ⟨b, 0, none⟩) l.length f) l.length (hcells l)) (i m : Nat) (hm : i + m ≤ l.length) :
    ∀ j u, (hcells ((l.drop i).take m))[j]? = some u → wr.cell? ((⟨b, i * 2, none⟩ : Addr).add j) = some u := by
  intro j u hu
  have hj : j < m * 2 := by
    have := (List.getElem?_eq_some_iff.1 hu).1
    rw [hcells_len] at this
    simp at this
    omega
  have e : (⟨b, i * 2, none⟩ : Addr).add j = ⟨b, i * 2 + j, none⟩ := by unfold Addr.add; split <;> simp_all
  have es : hcells l = hcells (l.take i) ++ (hcells ((l.drop i).take m) ++ hcells ((l.drop i).drop m)) := by
    rw [← hcells_append, ← hcells_append, List.take_append_drop, List.take_append_drop]
  rw [e, h.cellAt _ (by omega), es, List.getElem?_append_right (by rw [hcells_len, List.length_take]; omega), hcells_len]
  have e2 : i * 2 + j - (l.take i).length * 2 = j := by rw [List.length_take]; omega
  rw [e2, List.getElem?_append_left (by rw [hcells_len, List.length_take, List.length_drop]; omega)]
  exact hu
theorem step_app {ops : Array Oper} {o : Oper} {a : Act} {w : World} {K : Act → World → Prop} {Q : Exit → Act → World → Prop} {E : Prop} (hgd : o.guard = none) (s x : Operand)
    (ho : o.op = .call { callee := .builtin .append, args := #[s, x], argTypes := #[34, 34] })
    (base : Nat) (v : Value) (l : List (Int × Int)) (hs : a.eval s = v) (hown : w.ownsRow base 36 2 v l.length (hcells l))
    (ad : Addr) (m c : Nat) (r : List (Int × Int)) (hx : a.eval x = .slice (some ad) m c) (hl : r.length = m) (hnews : ∀ j u, (hcells r)[j]? = some u → w.cell? (ad.add j) = some u)
    (h63 : l.length + m ≤ 64) (hbase : base ≤ w.heap.size)
    (h : ∀ v' w', w'.ownsRow base 36 2 v' (l ++ r).length (hcells (l ++ r)) → w.grownBy w' v.ownBlock → (v'.ownBlock = v.ownBlock ∨ v'.ownBlock = some w.heap.size) → K (a.put o.dst v') w') :
    if Region.wanted o (yielded ops a.tmps) = true then Oper.wp Try.prog o a w K Q else E := by
  obtain ⟨i0, hi, hz0, hz1, hz2⟩ := info_parts Try.info36
  have hw : Region.wanted o (yielded ops a.tmps) = true := by simp [Region.wanted, hgd]
  rw [if_pos hw]
  obtain ⟨v', w', hr, h2, h3, _, h5⟩ := run_append_own_at (P := Try.prog) w base 34 o.type 36 i0 (.agg #[.int .i64 0, .int .i64 0]) 2 16 Try.underlying34 hi hz0 hz1 hz2 rfl (by decide) v l.length (hcells l) hown ad m c (hcells r) (by rw [hcells_len, hl]) hnews (hcells_one r) (by unfold maxLen; omega) (by omega) hbase
  unfold Oper.wp execOp
  simp only [ho, resolve, invoke, builtin, Sem.run_bind, Sem.run_pure, Result.andThen_ok, List.map_toArray, List.map_cons, List.map_nil, hs, hx, hr]
  exact h v' w' (by rw [hcells_append, List.length_append, hl]; exact h2) h3 h5
theorem app_keeps {W cur w1 : World} {v v1 : Value} (kc : Kept 0 0 W cur) (hv : ∃ g, v.ownBlock = some g ∧ W.heap.size ≤ g) (hg : cur.grownBy w1 v.ownBlock) (hat : v1.ownBlock = v.ownBlock ∨ v1.ownBlock = some cur.heap.size) :
    Kept 0 0 W w1 ∧ ∃ g, v1.ownBlock = some g ∧ W.heap.size ≤ g := by
  obtain ⟨g, e, hl⟩ := hv
  rw [e] at hg
  refine ⟨kc.trans2 (kept_of_row hg) (.inr hl), ?_⟩
  rcases hat with h | h
  · exact ⟨g, h.trans e, hl⟩
  · exact ⟨_, h, kc.size⟩
theorem HM.held_new {w wr wx : World} {A : Option Addr} {c : Nat} {xs : List Int} {g gs : Nat} {ages : List Int} {used : List Bool} {held gone held' : List (Int × Int)} {v vg v' : Value} (h : HM w wr A c xs g gs ages used held gone v vg) (hk : Kept 0 0 wr wx)
    (ho : wx.ownsRow w.heap.size 36 2 v' held'.length (hcells held')) (hv : ∃ b, v'.ownBlock = some b ∧ wr.heap.size ≤ b) : HM w wx A c xs g gs ages used held' gone v' vg := by
  refine (h.step hk).set_held ho ?_
  obtain ⟨b, e, hb⟩ := hv
  cases hvg : vg.ownBlock with
  | none => exact .inr (.inl rfl)
  | some b' =>
    have := (h.gone.lt b' hvg).2
    exact .inr (.inr (by rw [e]; intro e'; injection e' with e'; omega))
open Go.Sort in
theorem holds_quiet {ages : List Int} {used : List Bool} {s a : Int} {D D' : Option Addr} {wr : World} (h : RdS wr wr.heap.size D D' ages used) (d d' : Nat) {b : Bool} (hb : holdsB ages used s a = b) :
    ∀ d1 os, Calls Try.prog 17 #[.agg #[.slice D ages.length d, .slice D' used.length d'], .agg #[.int .i64 s, .int .i64 a]] (grow (redrawn wr d1) os) fun e w'' => e = .returned (.bool b) ∧ ∃ p : Regrown, w'' = grow (redrawn wr p.d) p.os := by
  subst hb
  exact fun d1 os => regrown_call (holdsImpl_any _ _ _ _ _ _ _ _ wr.heap.size _ (Kept.regrown wr d1 os).size (h.regrown (Nat.le_refl _) d1 os))
end Go.Proofs.Ytgminepgldfdfaa
