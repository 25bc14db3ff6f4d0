/- Chapter 8's functions over Afters on paper; the reference's NewAfters; no condition. -/
import Derived.Test.YtnnbfcmbcjkpoaaCd
namespace Go.Proofs.Ytnnbfcmbcjkpoaa
open Go.RowKit Go.Sort

def asZ : Afs := ⟨slZ, []⟩
def regOk (a : Afs) (node fn : Int) : Bool := takeSB a.slots && (inR node 0 59 && inR fn 0 99)
noncomputable def regB (a : Afs) (node fn : Int) : Bool := aftersB a && regOk a node fn
noncomputable def regA (a : Afs) (node fn : Int) : Afs := if aftersB a = true then (if regOk a node fn = true then ⟨takeST a.slots, a.list ++ [⟨(takeSH a.slots).1, (takeSH a.slots).2, node, fn, false⟩]⟩ else a) else asZ
noncomputable def regH (a : Afs) (node fn : Int) : Int × Int := if regB a node fn = true then takeSH a.slots else (0, 0)
def awayA (a : Afs) (i : Nat) : Afs := ⟨dropST a.slots (a.list.getD i ⟨0, 0, 0, 0, false⟩).slot (a.list.getD i ⟨0, 0, 0, 0, false⟩).age, a.list.take i ++ a.list.drop (i + 1)⟩
/-- What can be called off by a handle. -/
def offB (s g : Int) (x : Aft) : Bool := decide (x.slot = s) && (decide (x.age = g) && (!x.queued && decide (g < 1000000)))
/-- What can be started. -/
def goB (x : Aft) : Bool := x.queued && decide (x.age < 1000000)
/-- The first that p holds of. -/
def firstP (p : Aft → Bool) (l : List Aft) : Option Nat := (List.range l.length).find? fun i => p (l.getD i ⟨0, 0, 0, 0, false⟩)
noncomputable def pickA (p : Aft → Bool) (a : Afs) : Afs := if aftersB a = true then (match firstP p a.list with | some i => awayA a i | none => a) else asZ
noncomputable def pickB (p : Aft → Bool) (a : Afs) : Bool := aftersB a && (firstP p a.list).isSome
noncomputable def pickX (p : Aft → Bool) (a : Afs) : Aft := if aftersB a = true then (match firstP p a.list with | some i => a.list.getD i ⟨0, 0, 0, 0, false⟩ | none => ⟨0, 0, 0, 0, false⟩) else ⟨0, 0, 0, 0, false⟩
def queue1 (node : Int) (x : Aft) : Aft := if x.node = node then ⟨x.slot, x.age, x.node, x.func, true⟩ else x
noncomputable def queueA (a : Afs) (node : Int) : Afs := if aftersB a = true then ⟨a.slots, a.list.map (queue1 node)⟩ else asZ

theorem firstP_none {p : Aft → Bool} {l : List Aft} (h : ∀ i (hi : i < l.length), p l[i] = false) : firstP p l = none := by
  unfold firstP
  rw [List.find?_eq_none]
  intro i hi
  rw [List.mem_range] at hi
  simp [hi, h i hi]
theorem firstP_some {p : Aft → Bool} {l : List Aft} {k : Nat} (hk : k < l.length) (h1 : p l[k] = true) (h2 : ∀ i (hi : i < l.length), i < k → p l[i] = false) : firstP p l = some k :=
  find_range _ _ hk (by simp [hk, h1]) (fun i hi => by simp [show i < l.length by omega, h2 i (by omega) hi])

abbrev DoesAsB (f : Nat) : Prop := ∀ (a : Afs) (v : Value) (w : World), RdAs w w.heap.size v a → Calls Try.prog f #[v] w fun e w' => e = .returned (.bool (aftersB a)) ∧ Kept 0 0 w w'
abbrev DoesAsN (f : Nat) : Prop := ∀ (n : Int) (w : World), Calls Try.prog f #[.int .i64 n] w fun e w' => ∃ z, e = .returned (.tuple #[z, .bool (newSB n)]) ∧ OwnAs w' w.heap.size w'.heap.size z ⟨newST n, []⟩ ∧ Kept 0 0 w w'
abbrev DoesAsR (f : Nat) : Prop := ∀ (a : Afs) (node fn : Int) (v : Value) (w : World), RdAs w w.heap.size v a → Calls Try.prog f #[v, .int .i64 node, .int .i64 fn] w fun e w' => ∃ z, e = .returned (.tuple #[z, .agg #[.int .i64 (regH a node fn).1, .int .i64 (regH a node fn).2], .bool (regB a node fn)]) ∧ OwnAs w' w.heap.size w'.heap.size z (regA a node fn) ∧ Kept 0 0 w w'
abbrev DoesAsC (f : Nat) : Prop := ∀ (a : Afs) (s g : Int) (v : Value) (w : World), RdAs w w.heap.size v a → Calls Try.prog f #[v, .agg #[.int .i64 s, .int .i64 g]] w fun e w' => ∃ z, e = .returned (.tuple #[z, .bool (pickB (offB s g) a)]) ∧ OwnAs w' w.heap.size w'.heap.size z (pickA (offB s g) a) ∧ Kept 0 0 w w'
abbrev DoesAsQ (f : Nat) : Prop := ∀ (a : Afs) (node : Int) (v : Value) (w : World), RdAs w w.heap.size v a → Calls Try.prog f #[v, .int .i64 node] w fun e w' => ∃ z, e = .returned z ∧ OwnAs w' w.heap.size w'.heap.size z (queueA a node) ∧ Kept 0 0 w w'
abbrev DoesAsS (f : Nat) : Prop := ∀ (a : Afs) (v : Value) (w : World), RdAs w w.heap.size v a → Calls Try.prog f #[v] w fun e w' => ∃ z, e = .returned (.tuple #[z, .agg #[.int .i64 (pickX goB a).slot, .int .i64 (pickX goB a).age, .int .i64 (pickX goB a).node, .int .i64 (pickX goB a).func, .bool (pickX goB a).queued], .bool (pickB goB a)]) ∧ OwnAs w' w.heap.size w'.heap.size z (pickA goB a) ∧ Kept 0 0 w w'

theorem specAs : DoesAsB 21 := as8_any

set_option maxHeartbeats 1600000 in
theorem specNewAs : DoesAsN 24 := fun n w => by
  obtain ⟨W, hW⟩ : ∃ W, W = w.alloc (.cells #[.slice none 0 0, .slice none 0 0, .slice none 0 0] 34) := ⟨_, rfl⟩
  have KW : Hid (Kept 0 0 w W) := by show Kept _ _ _ _; rw [hW]; exact Kept.alloc0 _ _
  have B0 : Hid (Blk W w.heap.size 34 #[.slice none 0 0, .slice none 0 0, .slice none 0 0]) := by show Blk _ _ _ _; rw [hW]; exact Blk.new _ _ _
  have zW : w.heap.size + 1 ≤ W.heap.size := by rw [hW]; simp
  have HW := Lib.hid hW
  clear hW
  have CT := Lib.hid (specNew n W)
  go_enter Try.func24, Try.ntmps24
  go_upto_region 1 with fail
  rw [← HW.out]
  go_wp2_with fail
  with_reducible refine CT.out.mono ?_
  rintro e w1 ⟨_, rfl, ⟨_, _, rfl, ⟨D1, d1, rfl, o1⟩, ⟨D2, d2, rfl, o2⟩⟩, hk⟩
  have O1 := Lib.hid o1
  have O2 := Lib.hid o2
  have K1 := Lib.hid (KW.out.trans hk)
  have y1 := hk.size
  have C0 := Lib.hid (B0.out.kept hk (.inl (Nat.le_refl _)))
  clear o1 o2 hk CT B0 HW KW
  obtain ⟨V, hV⟩ : ∃ V, V = w1.alloc (.cells #[.slice D1 (newST n).ages.length d1, .slice D2 (newST n).used.length d2] 31) := ⟨_, rfl⟩
  have KV : Hid (Kept 0 0 w1 V) := by show Kept _ _ _ _; rw [hV]; exact Kept.alloc0 _ _
  have B1 : Hid (Blk V w1.heap.size 31 #[.slice D1 (newST n).ages.length d1, .slice D2 (newST n).used.length d2]) := by show Blk _ _ _ _; rw [hV]; exact Blk.new _ _ _
  have E0 := Lib.hid (C0.out.kept KV.out (.inl (Nat.le_refl _)))
  have P1 := Lib.hid (O1.out.kept KV.out (.inl (Nat.le_refl _)))
  have P2 := Lib.hid (O2.out.kept KV.out (.inl (Nat.le_refl _)))
  have K2 := Lib.hid (K1.out.trans KV.out)
  have y2 := KV.out.size
  have HV := Lib.hid hV
  clear hV
  go_upto_region 2 with fail
  rw [← HV.out]
  have b0 := B1.out.cell 0
  have b1 := B1.out.cell 1
  have c0 := E0.out.cell 0
  have c1 := E0.out.cell 1
  have c2 := E0.out.cell 2
  have f0 := E0.out.frozen 0
  have f1 := E0.out.frozen 1
  have f2 := E0.out.frozen 2
  simp only [List.getElem?_toArray, List.getElem?_cons_succ, List.getElem?_cons_zero] at b0 b1 c0 c1 c2
  obtain ⟨F, hF⟩ : ∃ F, F = ((V.setCell ⟨w.heap.size, 0, none⟩ (.slice D1 (newST n).ages.length d1)).setCell ⟨w.heap.size, 1, none⟩ (.slice D2 (newST n).used.length d2)).setCell ⟨w.heap.size, 2, none⟩ (.slice none 0 0) := ⟨_, rfl⟩
  have KF : Hid (Kept w.heap.size (w.heap.size + 1) V F) := by
    show Kept _ _ _ _
    rw [hF]
    exact (((Kept.refl w.heap.size (w.heap.size + 1) V).setCell (.inr ⟨Nat.le_refl _, Nat.lt_succ_self _⟩) _).setCell (.inr ⟨Nat.le_refl _, Nat.lt_succ_self _⟩) _).setCell (.inr ⟨Nat.le_refl _, Nat.lt_succ_self _⟩) _
  have BF : Hid (Blk F w.heap.size 34 #[.slice D1 (newST n).ages.length d1, .slice D2 (newST n).used.length d2, .slice none 0 0]) := by
    show Blk _ _ _ _
    rw [hF]
    exact ((E0.out.set_ 0 _).set_ 1 _).set_ 2 _
  have F0 := ax0 BF.out
  have F1 := ax1 BF.out
  have F2 := ax2 BF.out
  have HF := Lib.hid hF
  have FF := Lib.hid (And.intro F0 (And.intro F1 F2))
  clear hF F0 F1 F2
  go_wp2_with fail
  rw [← HF.out]
  obtain ⟨F0, F1, F2⟩ := FF.out
  have q1 := KF.out.size
  refine bodyPost_ret (v := .tuple #[.agg #[.slice D1 (newST n).ages.length d1, .slice D2 (newST n).used.length d2, .slice none 0 0], .bool (newSB n)]) (by simp [results, Try.results24, go_sem, F0, F1, F2]) rfl ⟨_, rfl, ⟨_, _, _, rfl, ⟨D1, d1, rfl, ?_⟩, ⟨D2, d2, rfl, ?_⟩, OwnAf.nil _ _ _⟩, ?_⟩
  · exact (P1.out.kept KF.out (.inr (.inr (by omega)))).wide (by omega) (by omega)
  · exact (P2.out.kept KF.out (.inr (.inr (by omega)))).wide (by omega) (by omega)
  · exact K2.out.trans2 KF.out (.inr (by omega))
end Go.Proofs.Ytnnbfcmbcjkpoaa
