/- freeHandles returns a stack of the free slots, the first one on top; no condition beyond valid slots. -/
import Derived.Test.YtgminepgldfdfaaZ1
namespace Go.Proofs.Ytgminepgldfdfaa
open Go.RowKit

/-- Slot i can be taken. -/
def freeB (ages : List Int) (used : List Bool) (i : Nat) : Bool := !(used.getD i true) && !(ages.getD i 1000000 == 1000000)
/-- The stack behind m rounds (from the last slot down). -/
def stk (ages : List Int) (used : List Bool) : Nat → List (Int × Int)
  | 0 => []
  | m + 1 => stk ages used m ++ if freeB ages used (ages.length - 1 - m) then [(((ages.length - 1 - m : Nat) : Int), ages.getD (ages.length - 1 - m) 0)] else []
theorem stk_len (ages : List Int) (used : List Bool) (m : Nat) : (stk ages used m).length ≤ m := by
  induction m with
  | zero => simp [stk]
  | succ m ih => simp only [stk, List.length_append]; split <;> simp <;> omega
theorem stk_free {ages : List Int} {used : List Bool} {m i : Nat} (hi : ages.length - 1 - m = i) (h : freeB ages used i = true) (hl : i < ages.length) : stk ages used (m + 1) = stk ages used m ++ [((i : Int), ages[i])] := by
  simp only [stk, hi, h, if_true]
  simp [hl]
theorem stk_full {ages : List Int} {used : List Bool} {m i : Nat} (hi : ages.length - 1 - m = i) (h : freeB ages used i = false) : stk ages used (m + 1) = stk ages used m := by
  simp [stk, hi, h]

theorem freeB_at {ages : List Int} {used : List Bool} {i : Nat} (h1 : i < ages.length) (h2 : i < used.length) : freeB ages used i = (!used[i] && !(ages[i] == 1000000)) := by
  simp [freeB, h1, h2]
theorem Kept.of_below_from {w w' : World} {B : Nat} (h : Below B w w') : Kept B w.heap.size w w' := ⟨h.os, h.tape, h.output, h.size, fun k hk hr => h.block k (by omega)⟩
theorem Blk.below {w w' : World} {g t B : Nat} {cs : Array Value} (h : Blk w g t cs) (hb : Below B w w') (hg : g < B) : Blk w' g t cs := (hb.block g hg).trans h
theorem RdS.below {w w' : World} {B B' : Nat} {A A' : Option Addr} {ages : List Int} {used : List Bool} (h : RdS w B A A' ages used) (hb : Below B' w w') (hB : B ≤ B') : RdS w' B A A' ages used := ⟨h.i.below (hb.mono hB), h.b.below (hb.mono hB)⟩
theorem Stk.kept {w w' : World} {g lo : Nat} {F : Option Addr} {f : Nat} {l : List (Int × Int)} (h : Stk w g lo F f l) (hk : Kept 0 0 w w') : Stk w' g lo F f l := ⟨h.x.kept hk (.inl (Nat.le_refl _)), row_kept h.o hk⟩

set_option maxHeartbeats 1600000 in
theorem freeHandles_any (ages : List Int) (used : List Bool) (A A' : Option Addr) (c c' B : Nat) (w : World) (hB : B ≤ w.heap.size) (h : RdS w B A A' ages used) (h1 : 1 ≤ ages.length) (h2 : ages.length ≤ 64) (h3 : used.length = ages.length) :
    Calls Try.prog 33 #[.agg #[.slice A ages.length c, .slice A' used.length c']] w fun e w' => ∃ (F : Option Addr) (f : Nat),
      e = .returned (.agg #[.slice F (stk ages used ages.length).length f]) ∧ w'.ownsRow w.heap.size 36 2 (.slice F (stk ages used ages.length).length f) (stk ages used ages.length).length (hcells (stk ages used ages.length)) ∧ Kept 0 0 w w' := by
  have H := Lib.hid h
  have H3 := Lib.hid h3
  clear h h3
  go_enter Try.func33, Try.ntmps33
  go_wp2
  obtain ⟨W, hW⟩ : ∃ W, W = ((w.alloc (.cells #[.slice A ages.length c, .slice A' used.length c'] 31)).alloc (.cells #[.slice none 0 0] 59)).alloc (.cells #[.slice none 0 0] 59) := ⟨_, rfl⟩
  have B1 : Hid (Blk W w.heap.size 31 #[.slice A ages.length c, .slice A' used.length c']) := by show Blk _ _ _ _; rw [hW]; exact ((Blk.new w 31 _).alloc _).alloc _
  have B2 : Hid (Blk W (w.heap.size + 1) 59 #[.slice none 0 0]) := by show Blk _ _ _ _; rw [hW]; have := ((Blk.new (w.alloc (.cells #[.slice A ages.length c, .slice A' used.length c'] 31)) 59 #[.slice none 0 0]).alloc (.cells #[.slice none 0 0] 59)); simpa using this
  have B3 : Hid (Blk W (w.heap.size + 1 + 1) 59 #[.slice none 0 0]) := by show Blk _ _ _ _; rw [hW]; have := (Blk.new ((w.alloc (.cells #[.slice A ages.length c, .slice A' used.length c'] 31)).alloc (.cells #[.slice none 0 0] 59)) 59 #[.slice none 0 0]); simpa using this
  have K := Lib.hid (show Kept 0 0 w W by rw [hW]; exact ((Kept.alloc0 w _).alloc _).alloc _)
  rw [← hW]
  clear hW
  have R := Lib.hid (H.out.kept hB K.out (.inl (Nat.le_refl _)))
  have z3 := B3.out.lt
  have S0 : Hid (Stk W (w.heap.size + 1 + 1) (w.heap.size + 1 + 1) none 0 (stk ages used 0)) := ⟨B3.out, World.ownsRow_nil _ _ _ _⟩
  clear H
  go_loopw [4] (fun i wr => ∃ m : Nat, m ≤ ages.length ∧ i = .int .i64 ((ages.length : Int) - 1 - m) ∧ Hid (∃ F f, Stk wr (w.heap.size + 1 + 1) (w.heap.size + 1 + 1) F f (stk ages used m)) ∧ Hid (Below (w.heap.size + 1 + 1) W wr)) (fun i _ => (intOf i + 1).toNat)
  case atStart => exact ⟨0, Nat.zero_le _, by go_num, ⟨none, 0, S0.out⟩, Lib.hid (Below.refl _ _)⟩
  case round =>
    obtain ⟨m, hm, rfl, HS, HB⟩ := hrel
    obtain ⟨F, f, hst⟩ := HS.out
    have b1 := B1.out.below HB.out (by omega)
    have b2 := B2.out.below HB.out (by omega)
    have r1 := R.out.below HB.out (by omega)
    have zr := HB.out.size
    have c0 := b1.cell 0
    have c1 := b1.cell 1
    have B1r := Lib.hid b1
    have B2r := Lib.hid b2
    have Rr := Lib.hid r1
    have ST := Lib.hid hst
    clear b1 b2 r1 hst HS
    by_cases hlt : m < ages.length
    · obtain ⟨i, hi⟩ : ∃ i : Nat, i = ages.length - 1 - m := ⟨_, rfl⟩
      have hiz : (ages.length : Int) - 1 - m = (i : Int) := by omega
      rw [hiz]
      have HI := Lib.hid hi.symm
      have HZ := Lib.hid hiz
      have l1 : i < ages.length := by omega
      have l2 : i < used.length := by have := H3.out; omega
      clear hi hiz
      obtain ⟨ad, rfl, _, hc⟩ := Rr.out.i.at_ l1
      obtain ⟨ad', rfl, _, hc'⟩ := Rr.out.b.at_ l2
      have i1 : (i : Int) < (ages.length : Int) := by omega
      have i2 : (i : Int) < (used.length : Int) := by omega
      have g0 : (0 : Int) ≤ (i : Int) := by omega
      have FB := Lib.hid (freeB_at (ages := ages) (used := used) l1 l2)
      generalize used[i] = u at hc' FB
      cases u
      · cases hage : (ages[i] == 1000000)
        · have hne : (ages[i] != 1000000) = true := by simp [bne, hage]
          rw [hage] at FB
          have FS := Lib.hid (stk_free HI.out (by rw [FB.out]; rfl) l1)
          clear hage
          go_wp2_with fail
          clear c0 c1 hc hc'
          with_reducible refine (handleAt_any ages used i _ _ _ _ B _ (by omega) (by exact Rr.out) l1).mono ?_
          rintro e w2 ⟨rfl, hk⟩
          have S2 := Lib.hid (ST.out.kept hk)
          have z2 := hk.size
          have HB2 := Lib.hid (HB.out.trans (hk.below (by omega) (.inl (Nat.le_refl _))))
          have hl := stk_len ages used m
          clear hk
          go_wp2_with fail
          with_reducible refine (push_any _ _ (w.heap.size + 1 + 1) (w.heap.size + 1 + 1) _ _ _ _ _ (by exact S2.out) (by omega) (by omega) (by omega) (by omega)).mono ?_
          rintro e w3 ⟨rfl, hs3, hb3⟩
          have S3 := Lib.hid hs3
          have HB3 := Lib.hid (HB2.out.trans hb3)
          clear hs3 hb3 hl
          go_wp2
          go_roundw
          case rel => exact ⟨m + 1, by omega, by rw [show (ages.length : Int) - 1 - (m + 1 : Nat) = (i : Int) - 1 from by have := HZ.out; omega], Lib.hid (by rw [FS.out]; exact S3.out), HB3⟩
          case measure => first | (simp [intOf]; done) | (simp [intOf]; omega)
        · have hne : (ages[i] != 1000000) = false := by simp [bne, hage]
          rw [hage] at FB
          have FS := Lib.hid (stk_full HI.out (by rw [FB.out]; rfl))
          clear hage
          go_wp2
          go_roundw
          case rel => exact ⟨m + 1, by omega, by rw [show (ages.length : Int) - 1 - (m + 1 : Nat) = (i : Int) - 1 from by have := HZ.out; omega], Lib.hid (by rw [FS.out]; exact ⟨F, f, ST.out⟩), HB⟩
          case measure => first | (simp [intOf]; done) | (simp [intOf]; omega)
      · have FS := Lib.hid (stk_full HI.out (by rw [FB.out]; rfl))
        go_wp2
        go_roundw
        case rel => exact ⟨m + 1, by omega, by rw [show (ages.length : Int) - 1 - (m + 1 : Nat) = (i : Int) - 1 from by have := HZ.out; omega], Lib.hid (by rw [FS.out]; exact ⟨F, f, ST.out⟩), HB⟩
        case measure => first | (simp [intOf]; done) | (simp [intOf]; omega)
    · have hmm : m = ages.length := by omega
      have HM := Lib.hid hmm
      have e0 : ¬ (0 ≤ (ages.length : Int) - 1 - m) := by omega
      clear hmm
      have c2 := ST.out.x.cell 0
      have c3 := B2r.out.cell 0
      have c4 := B2r.out.frozen 0
      go_wp2
      refine bodyPost_ret (v := .agg #[.slice F (stk ages used m).length f]) (by simp [results, Try.results33, go_sem, c3]) rfl ⟨F, f, ?_, ?_, ?_⟩
      · rw [HM.out]
      · have := HM.out
        subst this
        exact ownsRow_lo (ownsRow_setCell_other ST.out.o (row_ne ST.out.o B2r.out (by decide)) _) (by omega)
      · exact ((K.out.trans2 (Kept.of_below_from HB.out) (.inr (by omega))).setCell (.inl (by simp)) _)
end Go.Proofs.Ytgminepgldfdfaa
