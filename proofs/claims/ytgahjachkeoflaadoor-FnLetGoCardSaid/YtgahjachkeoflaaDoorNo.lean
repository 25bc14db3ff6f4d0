/- A range over a function that itself ranges over another one: what such a function promises to its loop (Seq), and the law of the loop over it; the rounds say which old blocks they keep (S), and keep all that the function has laid before its first round. No program is named here. -/
import Derived.RangeFuncNested
import Derived.RangeFuncBound
import Derived.RangeFuncCalls
import Derived.RangeFuncLeaves
import Derived.Shelf.Abstract
import Derived.Shelf.RegionOpen
import Derived.WalkKit
import Derived.OwnWalkIn
import Derived.TacticsInMore
import Derived.LoopNIn
import Derived.LoopIn
import Derived.Test.YtgahjachkeoflaaDoorGr
namespace Go.Proofs.YtgahjachkeoflaaDoor
open Go.RowKit

/-- The blocks below M that lie in S, or from B on, lie as they lay. -/
structure Hold (S : Nat → Prop) (B M : Nat) (w w' : World) : Prop where
  os : w'.os = w.os
  tape : w'.tape = w.tape
  output : w'.output = w.output
  size : w.heap.size ≤ w'.heap.size
  block : ∀ k, k < M → S k ∨ B ≤ k → w'.heap[k]? = w.heap[k]?
section
variable {S S' : Nat → Prop} {B B' M M' : Nat} {w w' w'' : World}
theorem Hold.refl (S : Nat → Prop) (B M : Nat) (w : World) : Hold S B M w w := ⟨rfl, rfl, rfl, Nat.le_refl _, fun _ _ _ => rfl⟩
theorem Hold.trans (h : Hold S B M w w') (k : Hold S B M w' w'') : Hold S B M w w'' :=
  ⟨k.os.trans h.os, k.tape.trans h.tape, k.output.trans h.output, Nat.le_trans h.size k.size, fun i hi hs => (k.block i hi hs).trans (h.block i hi hs)⟩
theorem Hold.mono (h : Hold S B M w w') (hM : M' ≤ M) (hS : ∀ k, k < M' → S' k ∨ B' ≤ k → S k ∨ B ≤ k) : Hold S' B' M' w w' :=
  ⟨h.os, h.tape, h.output, h.size, fun k hk hs => h.block k (by omega) (hS k hk hs)⟩
theorem Hold.of_kept {lo hi : Nat} (h : Kept lo hi w w') (hM : M ≤ w.heap.size) (hS : ∀ k, S k ∨ B ≤ k → k < M → k < lo ∨ hi ≤ k) : Hold S B M w w' :=
  ⟨h.os, h.tape, h.output, h.size, fun k hk hs => h.block k (by omega) (by have := hS k hs hk; omega)⟩
theorem Hold.of_kept0 (h : Kept 0 0 w w') (hM : M ≤ w.heap.size) : Hold S B M w w' := Hold.of_kept h hM fun _ _ _ => .inr (Nat.zero_le _)
theorem Hold.putObj (h : Hold S B M w w') {L : Nat} (o : Obj) (hL : ∀ k, k < M → S k ∨ B ≤ k → k ≠ L) : Hold S B M w (w'.putObj L o) :=
  h.trans ⟨rfl, rfl, rfl, by simp, fun k hk hs => World.putObj_heap_other (fun e => hL k hk hs (by rw [e]))⟩
theorem Hold.setCell (h : Hold S B M w w') {p : Addr} (u : Value) (hL : ∀ k, k < M → S k ∨ B ≤ k → k ≠ p.block) : Hold S B M w (w'.setCell p u) :=
  h.trans ⟨rfl, rfl, rfl, by simp [World.setCell], fun k hk hs => Below.heap_setCell _ _ _ _ (hL k hk hs)⟩
theorem Hold.drewN (h : Hold S B M w w') (n : Nat) : Hold S B M w (w'.drewN n) := ⟨h.os, h.tape, h.output, h.size, h.block⟩
theorem Hold.blk {g t : Nat} {cs : Array Value} (h : Hold S B M w w') (b : Blk w g t cs) (hM : g < M) (hS : S g ∨ B ≤ g) : Blk w' g t cs := (h.block g hM hS).trans b
end
theorem Kept.putObj {lo hi : Nat} (w : World) {L : Nat} (o : Obj) (h1 : lo ≤ L) (h2 : L < hi) : Kept lo hi w (w.putObj L o) :=
  ⟨rfl, rfl, rfl, by simp, fun k _ hk => World.putObj_heap_other (by omega)⟩

/-- At the widest fence the depth does not matter. -/
theorem yield_deep {m m' : Nat} {P : Program} {l : Nat} {args : Array Value} {W : World} {R : Ending → World → Prop} (h : YieldAt Fence.wide m P l args W R) : YieldAt Fence.wide m' P l args W R := by
  obtain ⟨fn, tmps, assign, body, hy, h1, h2⟩ := h
  exact ⟨fn, tmps, assign, body, hy, h1, fun c cs _ => h2 c cs (by simp [Fence.room, Fence.wide])⟩

/-- A function that hands the numbers xs, one after the other, to whoever asks, and stops where it is told to. J M k: the loop's own state behind k rounds; M: how far the memory reached before the first round. -/
def Seq (P : Program) (g : FuncId) (lb : Array Value) (xs : List Int) (S : Nat → Prop) (w₀ : World) : Prop :=
  ∀ (n m l : Nat) (W : World) (J : Nat → Nat → World → Prop) (Jx : Nat → World → Prop), Kept 0 0 w₀ W →
    (∀ V, Kept 0 0 W V → J V.heap.size 0 V) →
    (∀ M k V V', W.heap.size ≤ M → J M k V → Kept W.heap.size M V V' → J M k V') →
    (∀ M V V', W.heap.size ≤ M → Jx M V → Kept W.heap.size M V V' → Jx M V') →
    (∀ M k (h : k < xs.length) V, W.heap.size ≤ M → J M k V → YieldAt Fence.wide m P l #[.int .i64 xs[k]] V fun e V' =>
      Hold S W.heap.size M V V' ∧ ((e = .returned (.bool true) ∧ J M (k + 1) V') ∨ (e = .returned (.bool false) ∧ Jx M V'))) →
    CallsIn Fence.wide n P g (#[.func (.yield l) #[] #[]] ++ lb) W fun e W' => (∃ v, e = .returned v) ∧ ∃ M, W.heap.size ≤ M ∧ (J M xs.length W' ∨ Jx M W')

/-- How a round's body may end. -/
def endsR (S : Nat → Prop) (B M : Nat) (I : World → Prop) (Ix : Code → World → Prop) (W : World) : Exit → Act → World → Prop
  | .normal, _, W' => Hold S B M W W' ∧ I W'
  | .ret, _, W' => Hold S B M W W' ∧ Ix .ret W'
  | .exit id, _, W' => Hold S B M W W' ∧ Ix (.exit id) W'
  | .goto t, _, W' => Hold S B M W W' ∧ Ix (.goto t) W'
  | .panic _, _, _ => False
  | .outgrown, _, _ => False

/-- The law of 'for x := range f': the numbers xs come, one a round. -/
theorem wp_over {P : Program} {g : Operand} {p : Tmp} {assign body : Code} {Q : Exit → Act → World → Prop} {a : Act} {w : World} {n : Nat} (hn : 1 ≤ n)
    {gf : Nat} {lb : Array Value} (hg : a.eval g = .func (.func gf) #[] lb) (eg : ∀ args w, (callFunc gf args).run P w = .ok (.enter gf args) w)
    {xs : List Int} {S : Nat → Prop} (hs : Seq P gf lb xs (fun k => S k ∧ k < w.heap.size) w)
    (I : Nat → Nat → World → Prop) (Ix : Nat → Code → World → Prop)
    (h0 : ∀ V, Kept 0 0 w V → w.heap.size + 2 ≤ V.heap.size → I V.heap.size 0 V)
    (hI : ∀ M k V V', w.heap.size + 2 ≤ M → I M k V → Kept w.heap.size M V V' → I M k V')
    (hIx : ∀ M c V V', w.heap.size + 2 ≤ M → Ix M c V → Kept w.heap.size M V V' → Ix M c V')
    (a₁ : Int → Act)
    (hassign : ∀ (l : Nat) (x : Int) (W : World) (K : Act → World → Prop), K (a₁ x) W →
      assign.wpIn (Fence.wide.inRound l) 8 P (Exit.then K (fun _ _ _ => False)) { tmps := (#[p].zip #[Value.int .i64 x]).foldl (fun t (p, v) => t.setIfInBounds p v) a.tmps, defers := [] } W)
    (hbody : ∀ (l M k : Nat) (h : k < xs.length) (V : World), w.heap.size + 2 ≤ M → I M k V → body.wpIn (Fence.wide.inRound l) 8 P (endsR S w.heap.size M (I M (k + 1)) (Ix M) V) (a₁ xs[k]) V)
    (hdone : ∀ (D M : Nat) (V : World), w.heap.size ≤ D → D < M → I M xs.length V → V.heap[D]? = some (.deferred (some [])) → Q .normal { a with defers := { target := .collected D, args := #[] } :: a.defers } V)
    (hstop : ∀ (D M : Nat) (c : Code) (V : World), w.heap.size ≤ D → D < M → Ix M c V → V.heap[D]? = some (.deferred (some [])) → c.wpIn Fence.wide n P Q { a with defers := { target := .collected D, args := #[] } :: a.defers } V) :
    (Code.rangeFunc g #[p] assign body).wpIn Fence.wide n P Q a w := by
  refine wpIn_rangeFunc fun fn hfn => ?_
  obtain ⟨rc, hrc⟩ : ∃ rc : LoopState → Option Code → Loop, rc = fun st pe => { state := st, pending := pe, fn, tmps := a.tmps, params := #[p], assign, body, defers := w.heap.size } := ⟨_, rfl⟩
  obtain ⟨D, hD⟩ : ∃ D, D = w.heap.size := ⟨_, rfl⟩
  obtain ⟨W, hW⟩ : ∃ W, W = (w.alloc (.deferred (some []))).alloc (.loop (rc .ready none)) := ⟨_, rfl⟩
  have hsz : W.heap.size = D + 2 := by rw [hW, hD]; simp
  have kW : Kept 0 0 w W := by rw [hW]; exact ((Kept.refl _ _ _).alloc _).alloc _
  have rW : W.heap[D + 1]? = some (.loop (rc .ready none)) := by
    rw [hW, hD]; have := World.alloc_heap_new (w.alloc (.deferred (some []))) (.loop (rc .ready none)); rwa [World.size_alloc] at this
  have dW : W.heap[D]? = some (.deferred (some [])) := by
    rw [hW, hD]; exact (Below.heap_alloc _ _ _ (by simp)).trans (World.alloc_heap_new w _)
  refine ⟨D + 1, [{ target := .collected D, args := #[] }], W, { target := .fn (.func gf) lb, args := #[.func (.yield (D + 1)) #[] #[]] }, W, gf, #[.func (.yield (D + 1)) #[] #[]] ++ lb, W, ?_, ?_, ?_, ?_, fun _ => hn, ?_⟩
  · rw [hW, hrc, hD]; exact run_enterLoop_outer _ _ _ _ _
  · simp only [resolve, hg]; simp [go_sem]
  · intro f' _; trivial
  · simp [invoke, go_sem, eg]
  -- a block of the loop's own, seen through the steps of the function
  have own : ∀ {M : Nat} {V V' : World} {k : Nat} {o : Obj}, k < D + 2 → Kept W.heap.size M V V' → V.heap[k]? = some o → V'.heap[k]? = some o := fun hk hV ho =>
    (hV.block _ (Array.getElem?_eq_some_iff.1 ho).1 (by omega)).trans ho
  have turn : ∀ {M : Nat} (V : World) (o : Obj), D + 2 ≤ M → Kept w.heap.size M V (V.putObj (D + 1) o) := fun V o hM => Kept.putObj V o (by omega) (by omega)
  refine (hs (n - 1) 8 (D + 1) W
    (fun M k V => I M k V ∧ V.heap[D + 1]? = some (.loop (rc .ready none)) ∧ V.heap[D]? = some (.deferred (some [])))
    (fun M V => ∃ c, Ix M c V ∧ V.heap[D + 1]? = some (.loop (rc .done (some c))) ∧ V.heap[D]? = some (.deferred (some [])))
    kW (fun V hV => ⟨h0 V (kW.trans hV) (by have := hV.size; omega), (hV.block _ (by omega) (by omega)).trans rW, (hV.block _ (by omega) (by omega)).trans dW⟩)
    (fun M k V V' hM h hV => ⟨hI M k V V' (by omega) h.1 (hV.wide (.inr ⟨by omega, Nat.le_refl _⟩)), own (by omega) hV h.2.1, own (by omega) hV h.2.2⟩)
    (fun M V V' hM h hV => by
      obtain ⟨c, h1, h2, h3⟩ := h
      exact ⟨c, hIx M c V V' (by omega) h1 (hV.wide (.inr ⟨by omega, Nat.le_refl _⟩)), own (by omega) hV h2, own (by omega) hV h3⟩)
    ?_).mono ?_
  · -- a round
    rintro M k hk V hM ⟨hi, hl, hd⟩
    have hy := run_yield (P := P) (args := #[.int .i64 xs[k]]) hl (by rw [hrc]; rfl)
    rw [hrc] at hy
    refine ⟨fn, _, assign, body, hy, roundIn_of_wpIn hfn ?_⟩
    clear hy
    refine hassign (D + 1) xs[k] V _ ?_
    refine ⟨_, run_beginRound hl (by rw [hrc]), ?_⟩
    obtain ⟨V1, hV1⟩ : ∃ V1, V1 = V.putObj (D + 1) (.loop { rc .ready none with state := .busy }) := ⟨_, rfl⟩
    have hl1 : V1.heap[D + 1]? = some (.loop { rc .ready none with state := .busy }) := by rw [hV1]; exact World.putObj_heap_same (Array.getElem?_eq_some_iff.1 hl).1
    have hd1 : V1.heap[D]? = some (.deferred (some [])) := by rw [hV1]; exact (World.putObj_heap_other (by omega)).trans hd
    have far : ∀ k', k' < M → (S k' ∧ k' < w.heap.size) ∨ W.heap.size ≤ k' → k' ≠ D + 1 := by intro k' _ h; omega
    have hh1 : Hold (fun k => S k ∧ k < w.heap.size) W.heap.size M V V1 := by rw [hV1]; exact (Hold.refl _ _ _ _).putObj _ far
    have hi1 : I M k V1 := by rw [hV1]; exact hI M k V _ (by omega) hi (turn V _ (by omega))
    rw [← hV1]
    refine wpIn_mono (hbody (D + 1) M k hk V1 (by omega) hi1) ?_
    -- what the end of a round makes of the record
    have fin : ∀ (jump : Option Code) (V3 : World), Hold S w.heap.size M V1 V3 →
        (Instr.endRound (D + 1) jump).run P V3 = .ok (.bool jump.isNone) (V3.putObj (D + 1) (.loop (rc (if jump.isNone then .ready else .done) jump))) ∧
        (V3.putObj (D + 1) (.loop (rc (if jump.isNone then .ready else .done) jump))).heap[D + 1]? = some (.loop (rc (if jump.isNone then .ready else .done) jump)) ∧
        (V3.putObj (D + 1) (.loop (rc (if jump.isNone then .ready else .done) jump))).heap[D]? = some (.deferred (some [])) ∧
        Hold (fun k => S k ∧ k < w.heap.size) W.heap.size M V (V3.putObj (D + 1) (.loop (rc (if jump.isNone then .ready else .done) jump))) := fun jump V3 h3 => by
      have hl3 := (h3.block (D + 1) (by omega) (.inr (by omega))).trans hl1
      have hd3 := (h3.block D (by omega) (.inr (by omega))).trans hd1
      have e := run_endRound (P := P) jump hl3
      refine ⟨by rw [hrc] at e ⊢; exact e, World.putObj_heap_same (Array.getElem?_eq_some_iff.1 hl3).1, (World.putObj_heap_other (by omega)).trans hd3, ?_⟩
      exact (hh1.trans (h3.mono (Nat.le_refl _) (fun _ _ h => h.imp (fun h => h.1) (fun h => by omega)))).putObj _ far
    rintro e a3 V3 hp
    cases e with
    | normal =>
      obtain ⟨r, l4, d4, k4⟩ := fin none V3 hp.1
      exact ⟨_, _, r, k4, .inl ⟨rfl, hI M _ _ _ (by omega) hp.2 (turn V3 _ (by omega)), l4, d4⟩⟩
    | ret =>
      obtain ⟨r, l4, d4, k4⟩ := fin (some .ret) V3 hp.1
      exact ⟨_, _, r, k4, .inr ⟨rfl, _, hIx M _ _ _ (by omega) hp.2 (turn V3 _ (by omega)), l4, d4⟩⟩
    | exit id =>
      obtain ⟨r, l4, d4, k4⟩ := fin (some (.exit id)) V3 hp.1
      exact ⟨_, _, r, k4, .inr ⟨rfl, _, hIx M _ _ _ (by omega) hp.2 (turn V3 _ (by omega)), l4, d4⟩⟩
    | goto t =>
      obtain ⟨r, l4, d4, k4⟩ := fin (some (.goto t)) V3 hp.1
      exact ⟨_, _, r, k4, .inr ⟨rfl, _, hIx M _ _ _ (by omega) hp.2 (turn V3 _ (by omega)), l4, d4⟩⟩
    | panic ch => exact hp.elim
    | outgrown => exact hp.elim
  · -- behind the function
    rintro e V ⟨⟨v, rfl⟩, M, hM, (⟨hi, hl, hd⟩ | ⟨c, hi, hl, hd⟩)⟩
    · exact ⟨none, _, by have := run_endLoop (P := P) hl (by rw [hrc]; simp); rw [hrc] at this; exact this, hdone D M _ (by omega) (by omega) (hI M _ V _ (by omega) hi (turn V _ (by omega))) ((World.putObj_heap_other (by omega)).trans hd)⟩
    · exact ⟨some c, _, by have := run_endLoop (P := P) hl (by rw [hrc]; simp); rw [hrc] at this; exact this, hstop D M c _ (by omega) (by omega) (hIx M _ V _ (by omega) hi (turn V _ (by omega))) ((World.putObj_heap_other (by omega)).trans hd)⟩
end Go.Proofs.YtgahjachkeoflaaDoor
