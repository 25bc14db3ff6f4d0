/- From a law that returns true and keeps old memory to the given row; slices of records among the arguments; no condition. -/
import Derived.Test.YtfpnpjpcjbndoaaRows
import Derived.Test.YtfpnpjpcjbndoaaRc
import Derived.ProofKit
import Derived.Lib.SmallJoins
import Derived.Deep.Slices
import Derived.Deep.Fields
import Derived.Deep.Grids
namespace Go.Proofs.Ytfpnpjpcjbndoaa
open Go.ChangeShapes Go.WideShapes Go.ChangeAt Go.RowKit Go.Joins Go.Deep

theorem Try.own : ownKnob Try.prog.godebug = none := by kernel_rfl
theorem Try.laidOut : laidOutB Try.prog = true := by kernel_rfl

section
variable {H : Type} {enc : TypeId × Value → H} {P : Program}
/-- The given post, out of: a result that reads so, arguments that read so, and nothing old turned. -/
theorem post_of_below {f : Func} {s : ChangeSpec} {apart fresh handsOn again : Bool} {W W' : World} {args : Array Value} {v : Value} {ds gs : List (DataW H)} {before pa pv : List MemPlace}
    (hW : DataW.Whole enc P f.params.toList s.vars apart W args.toList ds gs before)
    (hres : ∀ (b : Nat) (sp : Nat → Bool) (hd : Bool), DataW.TrodAll enc P W' b sp hd f.resultTypes.toList (v.resultList f.resultTypes.size) (s.fn H (ds ++ gs)).results [])
    (hargs : ∀ sp : Nat → Bool, (∀ p ∈ before, sp p.block = true) → DataW.TrodAll enc P W' 0 sp true f.params.toList args.toList (s.fn H (ds ++ gs)).args pa)
    (hvars : ∀ sp : Nat → Bool, (∀ p ∈ before, sp p.block = true) → DataW.TrodVars enc P W' sp s.vars (s.fn H (ds ++ gs)).vars pv)
    (hps : before = pa ++ pv) (hb : Below W.heap.size W W')
    (hok : ∀ (j : Nat) (t : TypeId) (r : Value), f.resultTypes[j]? = some t → (v.resultList f.resultTypes.size)[j]? = some r → Value.okWide P W' .any 0 t r) :
    s.post enc P f apart fresh handsOn again W args v W' := by
  have hlt : ∀ p ∈ before, p.block < W.heap.size := fun p hp => hW.lt p hp
  have hold : ∀ p ∈ before, (fun b => decide (b < W.heap.size)) p.block = true := fun p hp => by simpa using hlt p hp
  refine ⟨ds, gs, before, [], pa, pv, hW, hres _ _ _, hargs _ hold, hvars _ hold, World.keptBut_mono (fun p hp => ⟨hp, ?_⟩) (hb.frame (· ∈ before)), fun _ => ?_⟩
  · rw [hps, List.mem_append] at hp
    exact Or.inr hp
  · obtain ⟨_, _, _, _, _, hz, hn⟩ := hW
    refine ⟨hok, _, _, ([] ++ pa) ++ pv, ⟨[] ++ pa, pv, trodAll_append (hargs _ (fun _ _ => rfl)) (hres _ _ _), hvars _ (fun _ _ => rfl), rfl, ?_, ?_⟩, ?_⟩
    · intro b off hp
      have hin : MemPlace.cell b off ∈ before := by rw [hps]; simpa using hp
      rw [hb.frozen (hlt _ hin)]
      exact hz b off hin
    · intro ha
      have := hn ha
      rw [hps] at this
      simpa using this
    · intro p hp _
      rw [hps]
      simpa using hp

theorem stays {t : TypeId} (hl : laidOutB P = true) (hr : P.readableRec t = true) (hrow : t < P.types.size) {W W' : World} {v : Value} {d : DataW H} {ps : List MemPlace}
    (h : DataW.Trod enc P W 0 (fun _ => true) true t v d ps) (hb : Below W.heap.size W W') (hlt : ∀ x ∈ ps, x.block < W.heap.size) (sp : Nat → Bool) (hsp : ∀ x ∈ ps, sp x.block = true) :
    DataW.Trod enc P W' 0 sp true t v d ps :=
  WideElems.Trod_stays hl hr hrow h (fun x hx => hb.same (hlt x hx)) hsp

/-- What the cells of one record are, in a reading. -/
def ReadsAs (enc : TypeId × Value → H) (P : Program) (w : World) (held : Bool) (e : TypeId) {α : Type} (R : Rec α) (good : α → Prop) : Prop :=
  ∀ (n : Nat) (cs : List Value) (y : DataW H × List MemPlace), cs.length = R.k → DataW.trod enc P w 0 (fun _ => true) held n e cs = some y → ∃ x, R.cells x = cs ∧ good x

/-- A slice of records among the arguments reads as a list. -/
theorem open_rec {w : World} {held : Bool} {t e : TypeId} {fuel : Nat} {v : Value} {y : DataW H × List MemPlace} {α : Type} {R : Rec α} {good : α → Prop} (ht : P.underlying t = some (.slice e)) (hC : P.cellsOf e = R.k) (hel : ReadsAs enc P w held e R good)
    (h : DataW.trod enc P w 0 (fun _ => true) held fuel t [v] = some y) : ∃ (A : Option Addr) (c : Nat) (xs : List α), v = .slice A xs.length c ∧ RdR R w w.heap.size A xs ∧ xs.length ≤ c ∧ c ≤ maxLen ∧ ∀ x ∈ xs, good x := by
  rcases open_slice ht h with ⟨hv, _⟩ | ⟨a, len, cap, m, n, D, Pl, hv, _, hl, hm, hmm, _, hx⟩
  · injection hv with hv
    exact ⟨none, 0, [], hv, RdR.nil _ _ _, Nat.le_refl _, Nat.zero_le _, by simp⟩
  · injection hv with hv
    have hlm : len ≤ m := by rw [hmm]; split <;> omega
    have key : ∀ i, i < len → ∃ x, good x ∧ ∀ j u, (R.cells x)[j]? = some u → w.cell? (a.add (i * R.k + j)) = some u := by
      intro i hi
      obtain ⟨cs, hc, htr⟩ := hx i (by omega)
      rw [hC] at hc
      obtain ⟨_, hcl, hat⟩ := World.cells?_some hc
      obtain ⟨x, hxc, hg⟩ := hel _ cs _ hcl htr
      refine ⟨x, hg, fun j u hu => ?_⟩
      have hj : j < R.k := by
        have := (List.getElem?_eq_some_iff.1 hu).1
        rwa [R.len] at this
      rw [← add_add_, hat j hj, ← hxc, hu]
    rcases Nat.eq_zero_or_pos len with h0 | h0
    · subst h0
      exact ⟨some a, cap, [], hv, RdR.nil _ _ _, Nat.zero_le _, hm, by simp⟩
    have hne : Nonempty α := ⟨(key 0 h0).choose⟩
    obtain ⟨f, hf⟩ : ∃ f : Nat → α, ∀ i, i < len → good (f i) ∧ ∀ j u, (R.cells (f i))[j]? = some u → w.cell? (a.add (i * R.k + j)) = some u := by
      refine ⟨fun i => if hi : i < len then (key i hi).choose else Classical.choice hne, fun i hi => ?_⟩
      simp only [dif_pos hi]
      exact (key i hi).choose_spec
    have hlen : ((List.range len).map f).length = len := by simp
    refine ⟨some a, cap, (List.range len).map f, by rw [hlen]; exact hv, ⟨by rw [hlen]; omega, fun hn => ?_⟩, by rw [hlen]; exact hl, hm, ?_⟩
    · rw [hlen] at hn
      have hcell : ∀ j u, (R.flat ((List.range len).map f))[j]? = some u → w.cell? (a.add j) = some u := by
        intro j u hu
        have hjl := (List.getElem?_eq_some_iff.1 hu).1
        rw [R.flat_len, hlen] at hjl
        have hk := R.pos
        have h1 : j / R.k < len := by rw [Nat.div_lt_iff_lt_mul hk]; exact hjl
        have e : j = j / R.k * R.k + j % R.k := by rw [Nat.mul_comm]; exact (Nat.div_add_mod j R.k).symm
        have hfl := R.flat_at ((List.range len).map f) (j / R.k) (by rw [hlen]; exact h1) (j % R.k) (Nat.mod_lt _ hk)
        rw [← e, hu] at hfl
        rw [e]
        exact (hf _ h1).2 _ u (by rw [hfl]; simp)
      refine ⟨a, rfl, ?_, hcell⟩
      have hpos : 0 < (R.flat ((List.range len).map f)).length := by rw [R.flat_len, hlen]; exact Nat.mul_pos hn R.pos
      have := World.block_lt_of_cell? w _ (hcell 0 _ (List.getElem?_eq_getElem hpos))
      simpa [Addr.add] using this
    · intro x hx
      obtain ⟨i, hi, rfl⟩ := List.mem_map.1 hx
      exact (hf i (by simpa using hi)).1
end
end Go.Proofs.Ytfpnpjpcjbndoaa
