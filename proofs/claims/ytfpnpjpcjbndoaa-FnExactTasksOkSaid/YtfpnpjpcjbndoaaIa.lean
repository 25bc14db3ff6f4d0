/- Slices of records of the type Task: how they lie in memory, and the helper functions of the laws over them (size, copy, compare, mark, check marks); no condition beyond what each theorem states. Written by tools/recgen.py. -/
import Derived.Test.YtfpnpjpcjbndoaaHa
namespace Go.Proofs.Ytfpnpjpcjbndoaa
open Go.RowKit Go.Sort

theorem Try.infoTk : (Try.prog.info? 35).map (fun i => (i.zero, i.size, i.bytes)) = some (some (.agg #[.int .i64 0, .int .i64 0, .int .i64 0, .int .i64 0, .int .i64 0, .int .i64 0, .int .i64 0, .int .i64 0, .int .i64 0]), 9, 72) := by kernel_rfl
theorem tkSlice : SliceOf Try.prog 24 35 tkR.k 72 := SliceOf.of Try.underlying24 Try.infoTk rfl
/-- What the walk wants to know of element k. -/
theorem RdR.tk {w : World} {B : Nat} {A : Option Addr} {xs : List Tk} {k : Nat} (h : RdR tkR w B A xs) (hk : k < xs.length) :
    ∃ ad, A = some ad ∧ ad.block < B ∧ w.cell? (ad.add (k * 9)) = some (.int .i64 xs[k].prog) ∧ w.cell? ⟨(ad.add (k * 9)).block, (ad.add (k * 9)).off + 1, none⟩ = some (.int .i64 xs[k].pc) ∧ w.cell? ⟨(ad.add (k * 9)).block, (ad.add (k * 9)).off + 2, none⟩ = some (.int .i64 xs[k].st) ∧ w.cell? ⟨(ad.add (k * 9)).block, (ad.add (k * 9)).off + 3, none⟩ = some (.int .i64 xs[k].why) ∧ w.cell? ⟨(ad.add (k * 9)).block, (ad.add (k * 9)).off + 4, none⟩ = some (.int .i64 xs[k].what) ∧ w.cell? ⟨(ad.add (k * 9)).block, (ad.add (k * 9)).off + 5, none⟩ = some (.int .i64 xs[k].timer) ∧ w.cell? ⟨(ad.add (k * 9)).block, (ad.add (k * 9)).off + 6, none⟩ = some (.int .i64 xs[k].reg) ∧ w.cell? ⟨(ad.add (k * 9)).block, (ad.add (k * 9)).off + 7, none⟩ = some (.int .i64 xs[k].grp) ∧ w.cell? ⟨(ad.add (k * 9)).block, (ad.add (k * 9)).off + 8, none⟩ = some (.int .i64 xs[k].err) := by
  obtain ⟨ad, e, hb, hc⟩ := h.at_ hk
  refine ⟨ad, e, hb, hc 0 _ rfl, ?_, ?_, ?_, ?_, ?_, ?_, ?_, ?_⟩
  · rw [← fieldAt_eq _ _ _ (by decide)]; exact hc 1 _ rfl
  · rw [← fieldAt_eq _ _ _ (by decide)]; exact hc 2 _ rfl
  · rw [← fieldAt_eq _ _ _ (by decide)]; exact hc 3 _ rfl
  · rw [← fieldAt_eq _ _ _ (by decide)]; exact hc 4 _ rfl
  · rw [← fieldAt_eq _ _ _ (by decide)]; exact hc 5 _ rfl
  · rw [← fieldAt_eq _ _ _ (by decide)]; exact hc 6 _ rfl
  · rw [← fieldAt_eq _ _ _ (by decide)]; exact hc 7 _ rfl
  · rw [← fieldAt_eq _ _ _ (by decide)]; exact hc 8 _ rfl
theorem toTk1_any (x : Tk) (w : World) :
    Calls Try.prog 37 #[.agg #[.int .i64 x.prog, .int .i64 x.pc, .int .i64 x.st, .int .i64 x.why, .int .i64 x.what, .int .i64 x.timer, .int .i64 x.reg, .int .i64 x.grp, .int .i64 x.err]] w fun e w' => e = .returned (.agg #[.int .i64 x.prog, .int .i64 x.pc, .int .i64 x.st, .int .i64 x.why, .int .i64 x.what, .int .i64 x.timer, .int .i64 x.reg, .int .i64 x.grp, .int .i64 x.err]) ∧ Kept 0 0 w w' := toTask_any x w

/-- What a copy in the making holds behind k rounds. -/
def tkPart (xs : List Tk) (k : Nat) : List Tk := xs.take k ++ List.replicate (xs.length - k) ⟨0, 0, 0, 0, 0, 0, 0, 0, 0⟩
theorem tkPart_zero (xs : List Tk) : tkPart xs 0 = List.replicate xs.length ⟨0, 0, 0, 0, 0, 0, 0, 0, 0⟩ := by simp [tkPart]
theorem tkPart_all (xs : List Tk) (k : Nat) (h : xs.length ≤ k) : tkPart xs k = xs := by
  simp [tkPart, List.take_of_length_le h, Nat.sub_eq_zero_of_le h]
theorem tkPart_len (xs : List Tk) (k : Nat) (h : k ≤ xs.length) : (tkPart xs k).length = xs.length := by simp [tkPart]; omega
theorem tkPart_succ (xs : List Tk) (k : Nat) (h : k < xs.length) : (tkPart xs k).set k xs[k] = tkPart xs (k + 1) := by
  unfold tkPart
  have e : xs.length - k = (xs.length - (k + 1)) + 1 := by omega
  rw [List.set_append_right _ _ (by simp; omega)]
  simp only [List.length_take, Nat.min_eq_left (Nat.le_of_lt h), Nat.sub_self]
  rw [e, List.replicate_succ, List.set_cons_zero, List.take_succ_eq_append_getElem h, List.append_assoc]
  rfl
theorem tkPart_at (xs : List Tk) (k : Nat) (h : k < xs.length) : (tkPart xs k)[k]'(by rw [tkPart_len xs k (Nat.le_of_lt h)]; exact h) = ⟨0, 0, 0, 0, 0, 0, 0, 0, 0⟩ := by
  unfold tkPart
  rw [List.getElem_append_right (by simp; omega)]
  simp

/-- The stores of one record. -/
theorem own_putTk {w : World} {base e n c g : Nat} {xs : List Tk} (h : w.ownsRow base e 9 (.slice (some ⟨g, 0, none⟩) n c) n (tkR.flat xs)) {i : Nat} (hi : i < xs.length) (x : Tk) :
    (((((((((w.setCell ⟨g, i * 9, none⟩ (.int .i64 x.prog)).setCell ⟨g, i * 9 + 1, none⟩ (.int .i64 x.pc)).setCell ⟨g, i * 9 + 2, none⟩ (.int .i64 x.st)).setCell ⟨g, i * 9 + 3, none⟩ (.int .i64 x.why)).setCell ⟨g, i * 9 + 4, none⟩ (.int .i64 x.what)).setCell ⟨g, i * 9 + 5, none⟩ (.int .i64 x.timer)).setCell ⟨g, i * 9 + 6, none⟩ (.int .i64 x.reg)).setCell ⟨g, i * 9 + 7, none⟩ (.int .i64 x.grp)).setCell ⟨g, i * 9 + 8, none⟩ (.int .i64 x.err)).ownsRow base e 9 (.slice (some ⟨g, 0, none⟩) n c) n (tkR.flat (xs.set i x)) := by
  have h1 := (((((((((h.stored (i * 9) (.int .i64 x.prog)).1.stored (i * 9 + 1) (.int .i64 x.pc)).1.stored (i * 9 + 2) (.int .i64 x.st)).1.stored (i * 9 + 3) (.int .i64 x.why)).1.stored (i * 9 + 4) (.int .i64 x.what)).1.stored (i * 9 + 5) (.int .i64 x.timer)).1.stored (i * 9 + 6) (.int .i64 x.reg)).1.stored (i * 9 + 7) (.int .i64 x.grp)).1.stored (i * 9 + 8) (.int .i64 x.err)).1
  have hl : (tkR.flat xs).length = xs.length * 9 := tkR.flat_len xs
  have e1 : ((((((((((tkR.flat xs).set (i * 9) (.int .i64 x.prog)).set (i * 9 + 1) (.int .i64 x.pc)).set (i * 9 + 2) (.int .i64 x.st)).set (i * 9 + 3) (.int .i64 x.why)).set (i * 9 + 4) (.int .i64 x.what)).set (i * 9 + 5) (.int .i64 x.timer)).set (i * 9 + 6) (.int .i64 x.reg)).set (i * 9 + 7) (.int .i64 x.grp)).set (i * 9 + 8) (.int .i64 x.err)) = tkR.flat (xs.set i x) := by
    rw [← tkR.flat_set xs i x hi]
    rw [← putAt_nil ((((((((((tkR.flat xs).set (i * 9) (.int .i64 x.prog)).set (i * 9 + 1) (.int .i64 x.pc)).set (i * 9 + 2) (.int .i64 x.st)).set (i * 9 + 3) (.int .i64 x.why)).set (i * 9 + 4) (.int .i64 x.what)).set (i * 9 + 5) (.int .i64 x.timer)).set (i * 9 + 6) (.int .i64 x.reg)).set (i * 9 + 7) (.int .i64 x.grp)).set (i * 9 + 8) (.int .i64 x.err)) (i * 9 + 8 + 1)]
    rw [putAt_cons _ _ _ _ (by simp; omega), putAt_cons _ _ _ _ (by simp; omega), putAt_cons _ _ _ _ (by simp; omega), putAt_cons _ _ _ _ (by simp; omega), putAt_cons _ _ _ _ (by simp; omega), putAt_cons _ _ _ _ (by simp; omega), putAt_cons _ _ _ _ (by simp; omega), putAt_cons _ _ _ _ (by simp; omega), putAt_cons _ _ _ _ (by omega)]
    rfl
  rw [e1] at h1
  exact h1

set_option maxHeartbeats 800000 in
theorem toTkS_any (xs : List Tk) (A : Option Addr) (c : Nat) (w : World) (h : RdR tkR w w.heap.size A xs) (hn : xs.length ≤ 1048576) :
    Calls Try.prog 19 #[.slice A xs.length c] w fun e w' => ∃ (B : Option Addr) (b : Nat), e = .returned (.slice B xs.length b) ∧
      OwnZ w' w.heap.size w'.heap.size 35 9 B xs.length b (tkR.flat xs) ∧ Kept 0 0 w w' := by
  obtain ⟨i0, hi, hz0, hz1, hz2⟩ := info_parts Try.infoTk
  have H := Lib.hid h
  clear h
  go_enter Try.func19, Try.ntmps19
  go_wp2_with (refine wpList_make_full _ rfl _ _ 24 rfl w.heap.size 35 i0 (.agg #[.int .i64 0, .int .i64 0, .int .i64 0, .int .i64 0, .int .i64 0, .int .i64 0, .int .i64 0, .int .i64 0, .int .i64 0]) 9 Try.underlying24 hi hz0 hz1 _ _ _ _ xs.length rfl rfl rfl rfl (by rw [hz2]; omega) (by unfold maxLen; omega) (Nat.le_refl _) ?_; intro w1 hown hg)
  have hown1 : w1.ownsRow w.heap.size 35 9 (.slice (some ⟨w.heap.size, 0, none⟩) xs.length xs.length) xs.length (tkR.flat (tkPart xs 0)) := by
    rw [tkPart_zero, ← tkR.made]; exact hown
  have HO := Lib.hid hown1
  have HK := Lib.hid (Kept.of_below (Below.of_grown_none hg) 0 0)
  clear hown hg hown1 hi hz0 hz1 hz2
  go_loopw [4] (fun i wr => ∃ k : Nat, k ≤ xs.length ∧ i = .int .i64 k ∧ Hid (wr.ownsRow w.heap.size 35 9 (.slice (some ⟨w.heap.size, 0, none⟩) xs.length xs.length) xs.length (tkR.flat (tkPart xs k))) ∧ Hid (Kept 0 0 w wr)) (fun i _ => xs.length - (intOf i).toNat)
  case atStart => exact ⟨0, Nat.zero_le _, rfl, HO, HK⟩
  case round =>
    clear HO HK
    obtain ⟨k, hk, rfl, HO, HK⟩ := hrel
    by_cases hlt : k < xs.length
    · obtain ⟨ad, rfl, _, c0, c1, c2, c3, c4, c5, c6, c7, c8⟩ := (H.out.kept (Nat.le_refl _) HK.out (.inl (Nat.le_refl _))).tk hlt
      have i1 : (k : Int) < (xs.length : Int) := by omega
      go_wp2_with fail
      with_reducible refine (toTk1_any xs[k] _).mono ?_
      rintro e w2 ⟨rfl, hk2⟩
      have HO2 := Lib.hid (row_kept HO.out hk2)
      have HK2 := Lib.hid (HK.out.trans hk2)
      clear hk2 c0 c1 c2 c3 c4 c5 c6 c7 c8 HO HK
      have hpl : k < (tkPart xs k).length := by rw [tkPart_len xs k hk]; exact hlt
      have c0 : w2.cell? ⟨w.heap.size, k * 9, none⟩ = some (.int .i64 0) := own_at (R := tkR) HO2.out hpl 0 (by rw [tkPart_at xs k hlt]; rfl)
      have c1 : w2.cell? ⟨w.heap.size, k * 9 + 1, none⟩ = some (.int .i64 0) := own_at (R := tkR) HO2.out hpl 1 (by rw [tkPart_at xs k hlt]; rfl)
      have c2 : w2.cell? ⟨w.heap.size, k * 9 + 2, none⟩ = some (.int .i64 0) := own_at (R := tkR) HO2.out hpl 2 (by rw [tkPart_at xs k hlt]; rfl)
      have c3 : w2.cell? ⟨w.heap.size, k * 9 + 3, none⟩ = some (.int .i64 0) := own_at (R := tkR) HO2.out hpl 3 (by rw [tkPart_at xs k hlt]; rfl)
      have c4 : w2.cell? ⟨w.heap.size, k * 9 + 4, none⟩ = some (.int .i64 0) := own_at (R := tkR) HO2.out hpl 4 (by rw [tkPart_at xs k hlt]; rfl)
      have c5 : w2.cell? ⟨w.heap.size, k * 9 + 5, none⟩ = some (.int .i64 0) := own_at (R := tkR) HO2.out hpl 5 (by rw [tkPart_at xs k hlt]; rfl)
      have c6 : w2.cell? ⟨w.heap.size, k * 9 + 6, none⟩ = some (.int .i64 0) := own_at (R := tkR) HO2.out hpl 6 (by rw [tkPart_at xs k hlt]; rfl)
      have c7 : w2.cell? ⟨w.heap.size, k * 9 + 7, none⟩ = some (.int .i64 0) := own_at (R := tkR) HO2.out hpl 7 (by rw [tkPart_at xs k hlt]; rfl)
      have c8 : w2.cell? ⟨w.heap.size, k * 9 + 8, none⟩ = some (.int .i64 0) := own_at (R := tkR) HO2.out hpl 8 (by rw [tkPart_at xs k hlt]; rfl)
      have f0 : w2.frozen? ⟨w.heap.size, k * 9, none⟩ = false := HO2.out.frozenAt _
      have f1 : w2.frozen? ⟨w.heap.size, k * 9 + 1, none⟩ = false := HO2.out.frozenAt _
      have f2 : w2.frozen? ⟨w.heap.size, k * 9 + 2, none⟩ = false := HO2.out.frozenAt _
      have f3 : w2.frozen? ⟨w.heap.size, k * 9 + 3, none⟩ = false := HO2.out.frozenAt _
      have f4 : w2.frozen? ⟨w.heap.size, k * 9 + 4, none⟩ = false := HO2.out.frozenAt _
      have f5 : w2.frozen? ⟨w.heap.size, k * 9 + 5, none⟩ = false := HO2.out.frozenAt _
      have f6 : w2.frozen? ⟨w.heap.size, k * 9 + 6, none⟩ = false := HO2.out.frozenAt _
      have f7 : w2.frozen? ⟨w.heap.size, k * 9 + 7, none⟩ = false := HO2.out.frozenAt _
      have f8 : w2.frozen? ⟨w.heap.size, k * 9 + 8, none⟩ = false := HO2.out.frozenAt _
      have HP := Lib.hid hpl
      clear hpl
      go_wp2
      go_roundw
      case rel => exact ⟨k + 1, by omega, by go_num, Lib.hid (by rw [← tkPart_succ _ _ hlt]; exact own_putTk HO2.out HP.out xs[k]), Lib.hid (((((((((HK2.out.setCell (.inl (by simp)) _).setCell (.inl (by simp)) _).setCell (.inl (by simp)) _).setCell (.inl (by simp)) _).setCell (.inl (by simp)) _).setCell (.inl (by simp)) _).setCell (.inl (by simp)) _).setCell (.inl (by simp)) _).setCell (.inl (by simp)) _)⟩
      case measure => simp [intOf]; omega
    · go_wp2
      go_ret
      refine ⟨_, _, rfl, OwnZ.mk_ (by have := HO.out; rw [tkPart_all xs k (by omega)] at this; exact this) (HO.out.lt _ rfl).2, HK.out⟩

theorem Tk.ext_iff' {a b : Tk} : a = b ↔ a.prog = b.prog ∧ a.pc = b.pc ∧ a.st = b.st ∧ a.why = b.why ∧ a.what = b.what ∧ a.timer = b.timer ∧ a.reg = b.reg ∧ a.grp = b.grp ∧ a.err = b.err := by cases a; cases b; simp
set_option maxHeartbeats 800000 in
theorem eqTk1_any (a b : Tk) (w : World) :
    Calls Try.prog 38 #[.agg #[.int .i64 a.prog, .int .i64 a.pc, .int .i64 a.st, .int .i64 a.why, .int .i64 a.what, .int .i64 a.timer, .int .i64 a.reg, .int .i64 a.grp, .int .i64 a.err], .agg #[.int .i64 b.prog, .int .i64 b.pc, .int .i64 b.st, .int .i64 b.why, .int .i64 b.what, .int .i64 b.timer, .int .i64 b.reg, .int .i64 b.grp, .int .i64 b.err]] w fun e w' => e = .returned (.bool (decide (a = b))) ∧ Kept 0 0 w w' := by
  cases g0 : (a.prog != b.prog)
  · skip
    cases g1 : (a.pc != b.pc)
    · skip
      cases g2 : (a.st != b.st)
      · skip
        cases g3 : (a.why != b.why)
        · skip
          cases g4 : (a.what != b.what)
          · skip
            cases g5 : (a.timer != b.timer)
            · skip
              cases g6 : (a.reg != b.reg)
              · skip
                cases g7 : (a.grp != b.grp)
                · skip
                  cases g8 : (a.err != b.err)
                  · skip
                    have E : Hid (decide (a = b) = true) := decide_eq_true (Tk.ext_iff'.2 ⟨by simpa using g0, by simpa using g1, by simpa using g2, by simpa using g3, by simpa using g4, by simpa using g5, by simpa using g6, by simpa using g7, by simpa using g8⟩)
                    go_enter Try.func38, Try.ntmps38
                    go_wp2
                    go_ret
                    exact ⟨ret_bool E.out.symm, ((Kept.alloc0 _ _).alloc _)⟩
                  · have E : Hid (decide (a = b) = false) := decide_eq_false (fun h => by rw [h] at g8; simp at g8)
                    go_enter Try.func38, Try.ntmps38
                    go_wp2
                    go_ret
                    exact ⟨ret_bool E.out.symm, ((Kept.alloc0 _ _).alloc _)⟩
                · have E : Hid (decide (a = b) = false) := decide_eq_false (fun h => by rw [h] at g7; simp at g7)
                  go_enter Try.func38, Try.ntmps38
                  go_wp2
                  go_ret
                  exact ⟨ret_bool E.out.symm, ((Kept.alloc0 _ _).alloc _)⟩
              · have E : Hid (decide (a = b) = false) := decide_eq_false (fun h => by rw [h] at g6; simp at g6)
                go_enter Try.func38, Try.ntmps38
                go_wp2
                go_ret
                exact ⟨ret_bool E.out.symm, ((Kept.alloc0 _ _).alloc _)⟩
            · have E : Hid (decide (a = b) = false) := decide_eq_false (fun h => by rw [h] at g5; simp at g5)
              go_enter Try.func38, Try.ntmps38
              go_wp2
              go_ret
              exact ⟨ret_bool E.out.symm, ((Kept.alloc0 _ _).alloc _)⟩
          · have E : Hid (decide (a = b) = false) := decide_eq_false (fun h => by rw [h] at g4; simp at g4)
            go_enter Try.func38, Try.ntmps38
            go_wp2
            go_ret
            exact ⟨ret_bool E.out.symm, ((Kept.alloc0 _ _).alloc _)⟩
        · have E : Hid (decide (a = b) = false) := decide_eq_false (fun h => by rw [h] at g3; simp at g3)
          go_enter Try.func38, Try.ntmps38
          go_wp2
          go_ret
          exact ⟨ret_bool E.out.symm, ((Kept.alloc0 _ _).alloc _)⟩
      · have E : Hid (decide (a = b) = false) := decide_eq_false (fun h => by rw [h] at g2; simp at g2)
        go_enter Try.func38, Try.ntmps38
        go_wp2
        go_ret
        exact ⟨ret_bool E.out.symm, ((Kept.alloc0 _ _).alloc _)⟩
    · have E : Hid (decide (a = b) = false) := decide_eq_false (fun h => by rw [h] at g1; simp at g1)
      go_enter Try.func38, Try.ntmps38
      go_wp2
      go_ret
      exact ⟨ret_bool E.out.symm, ((Kept.alloc0 _ _).alloc _)⟩
  · have E : Hid (decide (a = b) = false) := decide_eq_false (fun h => by rw [h] at g0; simp at g0)
    go_enter Try.func38, Try.ntmps38
    go_wp2
    go_ret
    exact ⟨ret_bool E.out.symm, ((Kept.alloc0 _ _).alloc _)⟩

set_option maxHeartbeats 800000 in
theorem eqTkS_any (xs ys : List Tk) (A A' : Option Addr) (c c' B B' : Nat) (w : World) (hB : B ≤ w.heap.size) (hB' : B' ≤ w.heap.size) (h : RdR tkR w B A xs) (h' : RdR tkR w B' A' ys) :
    Calls Try.prog 20 #[.slice A xs.length c, .slice A' ys.length c'] w fun e w' => e = .returned (.bool (decide (xs = ys))) ∧ Kept 0 0 w w' := by
  have hx := h.1
  have hy := h'.1
  unfold maxLen at hx hy
  have H := Lib.hid h
  have H' := Lib.hid h'
  clear h h'
  by_cases hl : xs.length = ys.length
  · have hb : (((xs.length : Int)) != ((ys.length : Int))) = false := by simp [hl]
    have HL := Lib.hid hl
    clear hl
    go_enter Try.func20, Try.ntmps20
    go_wp2
    go_loopw [5] (fun i wr => ∃ k : Nat, k ≤ xs.length ∧ i = .int .i64 k ∧ Hid (xs.take k = ys.take k) ∧ Hid (Kept 0 0 w wr)) (fun i _ => xs.length - (intOf i).toNat)
    case atStart => exact ⟨0, Nat.zero_le _, rfl, Lib.hid rfl, Lib.hid (Kept.refl _ _ _)⟩
    case round =>
      obtain ⟨k, hk, rfl, HT, HK⟩ := hrel
      by_cases hlt : k < xs.length
      · have hlt' : k < ys.length := by have := HL.out; omega
        obtain ⟨ad, rfl, _, c0, c1, c2, c3, c4, c5, c6, c7, c8⟩ := (H.out.kept hB HK.out (.inl (Nat.le_refl _))).tk hlt
        obtain ⟨ad', rfl, _, d0, d1, d2, d3, d4, d5, d6, d7, d8⟩ := (H'.out.kept hB' HK.out (.inl (Nat.le_refl _))).tk hlt'
        have k0 := cell_regrown c0
        have k1 := cell_regrown c1
        have k2 := cell_regrown c2
        have k3 := cell_regrown c3
        have k4 := cell_regrown c4
        have k5 := cell_regrown c5
        have k6 := cell_regrown c6
        have k7 := cell_regrown c7
        have k8 := cell_regrown c8
        have j0 := cell_regrown d0
        have j1 := cell_regrown d1
        have j2 := cell_regrown d2
        have j3 := cell_regrown d3
        have j4 := cell_regrown d4
        have j5 := cell_regrown d5
        have j6 := cell_regrown d6
        have j7 := cell_regrown d7
        have j8 := cell_regrown d8
        clear c0 c1 c2 c3 c4 c5 c6 c7 c8 d0 d1 d2 d3 d4 d5 d6 d7 d8
        have i1 : (k : Int) < (xs.length : Int) := by omega
        have i2 : (k : Int) < (ys.length : Int) := by omega
        have CO := Lib.hid (fun d os => regrown_call (eqTk1_any xs[k] ys[k] (grow (redrawn wr d) os)))
        go_wp2_with fail
        by_cases he : xs[k] = ys[k]
        · rw [decide_eq_true he] at CO
          have HT' := Lib.hid (take_eq_succ HT.out hlt hlt' he)
          clear he HT
          refine wp_region_quiet_below (by kernel_rfl) (by kernel_rfl) ?_
          repeat (first | go_big_quiet_step (exact CO.out _ _) | quiet_step (exact CO.out _ _))
          refine wpQuiet_nil ?_
          intro _ hw'
          obtain ⟨⟨dq, osq⟩, hw''⟩ := hw'
          subst hw''
          clear k0 k1 k2 k3 k4 k5 k6 k7 k8 j0 j1 j2 j3 j4 j5 j6 j7 j8 CO
          go_wp2
          go_roundw
          case rel => exact ⟨k + 1, by omega, by go_num, HT', Lib.hid (HK.out.trans (Kept.regrown _ _ _))⟩
          case measure => simp [intOf]; omega
        · rw [decide_eq_false he] at CO
          have HE := Lib.hid (ne_of_at hlt hlt' he)
          clear he HT
          refine wp_region_quiet_below (by kernel_rfl) (by kernel_rfl) ?_
          repeat (first | go_big_quiet_step (exact CO.out _ _) | quiet_step (exact CO.out _ _))
          refine wpQuiet_nil ?_
          intro _ hw'
          obtain ⟨⟨dq, osq⟩, hw''⟩ := hw'
          subst hw''
          clear k0 k1 k2 k3 k4 k5 k6 k7 k8 j0 j1 j2 j3 j4 j5 j6 j7 j8 CO
          go_wp2
          go_ret
          exact ⟨ret_bool (decide_eq_false HE.out).symm, HK.out.trans (Kept.regrown _ _ _)⟩
      · go_wp2
        go_ret
        exact ⟨ret_bool (decide_eq_true (take_eq_all HT.out (by omega) (by have := HL.out; omega))).symm, HK.out⟩
  · have hb : (((xs.length : Int)) != ((ys.length : Int))) = true := by simp; omega
    have HL := Lib.hid hl
    clear hl
    go_enter Try.func20, Try.ntmps20
    go_wp2
    go_ret
    exact ⟨ret_bool (decide_eq_false (fun he => HL.out (by rw [he]))).symm, Kept.refl _ _ _⟩

set_option maxHeartbeats 400000 in
theorem szTkS_any (A : Option Addr) (n c : Nat) (left : Int) (w : World) (h0 : 0 ≤ left) (h1 : left ≤ 1048576) (hn : n ≤ maxLen) :
    Calls Try.prog 18 #[.slice A n c, .int .i64 left] w fun e w' => e = .returned (.int .i64 (szF left n)) ∧ w = w' := by
  unfold maxLen at hn
  by_cases hl : left - n < 0
  · have H := Lib.hid hl
    go_enter Try.func18, Try.ntmps18
    go_wp2
    go_ret
    exact ⟨ret_int (szF_neg (by have := H.out; omega)).symm, rfl⟩
  · have H := Lib.hid hl
    go_enter Try.func18, Try.ntmps18
    go_wp2
    go_ret
    exact ⟨ret_int (szF_pos (by have := H.out; omega)).symm, rfl⟩

/-- What the marks write: k, k+1, .. -/
def tkMark (k : Int) (i : Nat) : Tk := ⟨k + 9 * i, k + 9 * i + 1, k + 9 * i + 1 + 1, k + 9 * i + 1 + 1 + 1, k + 9 * i + 1 + 1 + 1 + 1, k + 9 * i + 1 + 1 + 1 + 1 + 1, k + 9 * i + 1 + 1 + 1 + 1 + 1 + 1, k + 9 * i + 1 + 1 + 1 + 1 + 1 + 1 + 1, k + 9 * i + 1 + 1 + 1 + 1 + 1 + 1 + 1 + 1⟩
def marksTk (k : Int) (n : Nat) : List Tk := (List.range n).map (tkMark k)
theorem marksTk_len (k : Int) (n : Nat) : (marksTk k n).length = n := by simp [marksTk]
theorem marksTk_at (k : Int) (n i : Nat) (h : i < (marksTk k n).length) : (marksTk k n)[i] = tkMark k i := by simp [marksTk]

set_option maxRecDepth 8000 in
set_option maxHeartbeats 800000 in
theorem heldTkS_any (k : Int) (n : Nat) (A : Option Addr) (c B : Nat) (w : World) (h : RdR tkR w B A (marksTk k n)) (hk0 : 0 ≤ k) (hk : k ≤ 10000000) (hn : n ≤ 1048576) :
    Calls Try.prog 26 #[.slice A n c, .int .i64 k] w fun e w' => e = .returned (.int .i64 (k + 9 * (n : Int))) ∧ w = w' := by
  have H := Lib.hid h
  clear h
  go_enter Try.func26, Try.ntmps26
  go_wp2
  go_loop [1, 5] (fun q i => ∃ j : Nat, j ≤ n ∧ i = .int .i64 j ∧ q = .int .i64 (k + 9 * (j : Int))) (fun _ i => n - (intOf i).toNat)
  case atStart => exact ⟨0, Nat.zero_le _, rfl, by go_num⟩
  case round =>
    obtain ⟨j, hj, rfl, rfl⟩ := hrel
    by_cases hlt : j < n
    · have hm : j < (marksTk k n).length := by rw [marksTk_len]; exact hlt
      obtain ⟨ad, rfl, _, c0, c1, c2, c3, c4, c5, c6, c7, c8⟩ := H.out.tk hm
      rw [marksTk_at] at c0 c1 c2 c3 c4 c5 c6 c7 c8
      simp only [tkMark] at c0 c1 c2 c3 c4 c5 c6 c7 c8
      have i1 : (j : Int) < (n : Int) := by omega
      go_wp2
      go_round
      case rel => exact ⟨j + 1, by omega, by go_num, by rw [show k + 9 * ((j + 1 : Nat) : Int) = k + 9 * (j : Int) + 1 + 1 + 1 + 1 + 1 + 1 + 1 + 1 + 1 from by omega]⟩
      case measure => simp [intOf]; omega
    · go_wp2
      go_ret
      exact ⟨ret_int (by omega), rfl⟩

/-- The first j records of a row marked. -/
def tkMarked (k : Int) (ys : List Tk) (j : Nat) : List Tk := marksTk k j ++ ys.drop j
theorem tkMarked_zero (k : Int) (ys : List Tk) : tkMarked k ys 0 = ys := by simp [tkMarked, marksTk]
theorem tkMarked_len (k : Int) (ys : List Tk) (j : Nat) (h : j ≤ ys.length) : (tkMarked k ys j).length = ys.length := by simp [tkMarked, marksTk_len]; omega
theorem tkMarked_all (k : Int) (ys : List Tk) : tkMarked k ys ys.length = marksTk k ys.length := by simp [tkMarked]
theorem tkMarked_at (k : Int) (ys : List Tk) (j : Nat) (h : j < ys.length) : (tkMarked k ys j)[j]'(by rw [tkMarked_len k ys j (Nat.le_of_lt h)]; exact h) = ys[j] := by
  unfold tkMarked
  rw [List.getElem_append_right (by rw [marksTk_len]; exact Nat.le_refl _)]
  simp [marksTk_len]
theorem tkMarked_succ (k : Int) (ys : List Tk) (j : Nat) (h : j < ys.length) : (tkMarked k ys j).set j (tkMark k j) = tkMarked k ys (j + 1) := by
  unfold tkMarked
  rw [List.set_append_right _ _ (by rw [marksTk_len]; exact Nat.le_refl _), marksTk_len, Nat.sub_self, List.drop_eq_getElem_cons h, List.set_cons_zero]
  simp [marksTk, List.range_succ]

set_option maxRecDepth 8000 in
set_option maxHeartbeats 1600000 in
theorem markTkS_any (k : Int) (ys : List Tk) (g cap base : Nat) (w : World) (h : w.ownsRow base 35 9 (.slice (some ⟨g, 0, none⟩) ys.length cap) ys.length (tkR.flat (ys))) (hk0 : 0 ≤ k) (hk : k ≤ 10000000) (hn : ys.length ≤ 1048576) :
    Calls Try.prog 22 #[.slice (some ⟨g, 0, none⟩) ys.length cap, .int .i64 k] w fun e w' => e = .returned (.int .i64 (k + 9 * (ys.length : Int))) ∧
      w'.ownsRow base 35 9 (.slice (some ⟨g, 0, none⟩) ys.length cap) ys.length (tkR.flat (marksTk k ys.length)) ∧ Kept g (g + 1) w w' := by
  have HO : Hid (w.ownsRow base 35 9 (.slice (some ⟨g, 0, none⟩) ys.length cap) ys.length (tkR.flat (tkMarked k ys 0))) := by rw [tkMarked_zero]; exact h
  clear h
  go_enter Try.func22, Try.ntmps22
  go_wp2
  go_loopw [1, 5] (fun q i wr => ∃ j : Nat, j ≤ ys.length ∧ i = .int .i64 j ∧ q = .int .i64 (k + 9 * (j : Int)) ∧ Hid (wr.ownsRow base 35 9 (.slice (some ⟨g, 0, none⟩) ys.length cap) ys.length (tkR.flat (tkMarked k ys j))) ∧ Hid (Kept g (g + 1) w wr)) (fun _ i _ => ys.length - (intOf i).toNat)
  case atStart => exact ⟨0, Nat.zero_le _, rfl, by go_num, HO, Lib.hid (Kept.refl _ _ _)⟩
  case round =>
    clear HO
    obtain ⟨j, hj, rfl, rfl, HO, HK⟩ := hrel
    by_cases hlt : j < ys.length
    · have hpl : j < (tkMarked k ys j).length := by rw [tkMarked_len k ys j hj]; exact hlt
      have hat := tkMarked_at k ys j hlt
      have c0 : wr.cell? ⟨g, j * 9, none⟩ = some (.int .i64 ys[j].prog) := own_at (R := tkR) HO.out hpl 0 (by rw [hat]; rfl)
      have c1 : wr.cell? ⟨g, j * 9 + 1, none⟩ = some (.int .i64 ys[j].pc) := own_at (R := tkR) HO.out hpl 1 (by rw [hat]; rfl)
      have c2 : wr.cell? ⟨g, j * 9 + 2, none⟩ = some (.int .i64 ys[j].st) := own_at (R := tkR) HO.out hpl 2 (by rw [hat]; rfl)
      have c3 : wr.cell? ⟨g, j * 9 + 3, none⟩ = some (.int .i64 ys[j].why) := own_at (R := tkR) HO.out hpl 3 (by rw [hat]; rfl)
      have c4 : wr.cell? ⟨g, j * 9 + 4, none⟩ = some (.int .i64 ys[j].what) := own_at (R := tkR) HO.out hpl 4 (by rw [hat]; rfl)
      have c5 : wr.cell? ⟨g, j * 9 + 5, none⟩ = some (.int .i64 ys[j].timer) := own_at (R := tkR) HO.out hpl 5 (by rw [hat]; rfl)
      have c6 : wr.cell? ⟨g, j * 9 + 6, none⟩ = some (.int .i64 ys[j].reg) := own_at (R := tkR) HO.out hpl 6 (by rw [hat]; rfl)
      have c7 : wr.cell? ⟨g, j * 9 + 7, none⟩ = some (.int .i64 ys[j].grp) := own_at (R := tkR) HO.out hpl 7 (by rw [hat]; rfl)
      have c8 : wr.cell? ⟨g, j * 9 + 8, none⟩ = some (.int .i64 ys[j].err) := own_at (R := tkR) HO.out hpl 8 (by rw [hat]; rfl)
      have f0 : wr.frozen? ⟨g, j * 9, none⟩ = false := HO.out.frozenAt _
      have f1 : wr.frozen? ⟨g, j * 9 + 1, none⟩ = false := HO.out.frozenAt _
      have f2 : wr.frozen? ⟨g, j * 9 + 2, none⟩ = false := HO.out.frozenAt _
      have f3 : wr.frozen? ⟨g, j * 9 + 3, none⟩ = false := HO.out.frozenAt _
      have f4 : wr.frozen? ⟨g, j * 9 + 4, none⟩ = false := HO.out.frozenAt _
      have f5 : wr.frozen? ⟨g, j * 9 + 5, none⟩ = false := HO.out.frozenAt _
      have f6 : wr.frozen? ⟨g, j * 9 + 6, none⟩ = false := HO.out.frozenAt _
      have f7 : wr.frozen? ⟨g, j * 9 + 7, none⟩ = false := HO.out.frozenAt _
      have f8 : wr.frozen? ⟨g, j * 9 + 8, none⟩ = false := HO.out.frozenAt _
      have HP := Lib.hid hpl
      have i1 : (j : Int) < (ys.length : Int) := by omega
      clear hpl hat
      go_wp2
      go_roundw
      case rel =>
        refine ⟨j + 1, by omega, by go_num, by rw [show k + 9 * ((j + 1 : Nat) : Int) = k + 9 * (j : Int) + 1 + 1 + 1 + 1 + 1 + 1 + 1 + 1 + 1 from by omega], Lib.hid ?_, Lib.hid (((((((((HK.out.setCell (.inr ⟨Nat.le_refl _, Nat.lt_succ_self _⟩) _).setCell (.inr ⟨Nat.le_refl _, Nat.lt_succ_self _⟩) _).setCell (.inr ⟨Nat.le_refl _, Nat.lt_succ_self _⟩) _).setCell (.inr ⟨Nat.le_refl _, Nat.lt_succ_self _⟩) _).setCell (.inr ⟨Nat.le_refl _, Nat.lt_succ_self _⟩) _).setCell (.inr ⟨Nat.le_refl _, Nat.lt_succ_self _⟩) _).setCell (.inr ⟨Nat.le_refl _, Nat.lt_succ_self _⟩) _).setCell (.inr ⟨Nat.le_refl _, Nat.lt_succ_self _⟩) _).setCell (.inr ⟨Nat.le_refl _, Nat.lt_succ_self _⟩) _)⟩
        rw [← tkMarked_succ k ys j hlt]
        have := own_putTk HO.out HP.out (tkMark k j)
        simpa only [tkMark] using this
      case measure => simp [intOf]; omega
    · have e : j = ys.length := by omega
      subst e
      go_wp2
      go_ret
      exact ⟨rfl, by rw [← tkMarked_all]; exact HO.out, HK.out⟩
theorem markTkS_own (k : Int) (ys : List Tk) (A : Option Addr) (c lo hi : Nat) (w : World) (h : OwnZ w lo hi 35 9 A ys.length c (tkR.flat ys)) (hk0 : 0 ≤ k) (hk : k ≤ 10000000) (hn : ys.length ≤ 1048576) :
    Calls Try.prog 22 #[.slice A ys.length c, .int .i64 k] w fun e w' => e = .returned (.int .i64 (k + 9 * (ys.length : Int))) ∧
      OwnZ w' lo hi 35 9 A ys.length c (tkR.flat (marksTk k ys.length)) ∧ Kept (aLo A) (aHi A) w w' := by
  rcases h.form with ⟨rfl, h0, rfl⟩ | ⟨g, rfl, h1, h2, _⟩
  · rw [h0]
    go_enter Try.func22, Try.ntmps22
    go_wp2
    go_rounds 1
    go_ret
    exact ⟨ret_int (by simp), ⟨by simp [marksTk]; exact World.ownsRow_nil _ _ _ _, by simp⟩, Kept.refl _ _ _⟩
  · exact (markTkS_any k ys g c lo w h.1 hk0 hk hn).mono fun e w' ⟨he, ho, hk⟩ => ⟨he, ⟨ho, h.2⟩, hk⟩

/-- A slice value that reads as xs. -/
def RdTk (w : World) (B : Nat) (v : Value) (xs : List Tk) : Prop := ∃ A c, v = .slice A xs.length c ∧ SL tkR w B A c xs
/-- A slice value of the call's own. -/
def OwnTk (w : World) (lo hi : Nat) (v : Value) (xs : List Tk) : Prop := ∃ D d, v = .slice D xs.length d ∧ OwnZ w lo hi 35 9 D xs.length d (tkR.flat xs)
section
variable {w w' : World} {B B' lo hi lo' hi' : Nat} {v : Value} {xs : List Tk}
theorem RdTk.kept (h : RdTk w B v xs) (hB : B ≤ w.heap.size) (hk : Kept lo hi w w') (hr : hi ≤ lo ∨ B ≤ lo) : RdTk w' B v xs := by
  obtain ⟨A, c, e, h⟩ := h; exact ⟨A, c, e, h.kept hB hk hr⟩
theorem RdTk.wide (h : RdTk w B v xs) (hB : B ≤ B') : RdTk w B' v xs := by
  obtain ⟨A, c, e, h⟩ := h; exact ⟨A, c, e, h.wide hB⟩
theorem RdTk.up (h : RdTk w w.heap.size v xs) (hk : Kept 0 0 w w') : RdTk w' w'.heap.size v xs := (h.kept (Nat.le_refl _) hk (.inl (Nat.le_refl _))).wide hk.size
theorem RdTk.len (h : RdTk w B v xs) : xs.length ≤ maxLen := by obtain ⟨A, c, e, h⟩ := h; exact h.rd.1
theorem OwnTk.kept (h : OwnTk w lo hi v xs) (hk : Kept lo' hi' w w') (hr : hi' ≤ lo' ∨ hi ≤ lo' ∨ hi' ≤ lo) : OwnTk w' lo hi v xs := by
  obtain ⟨A, c, e, h⟩ := h; exact ⟨A, c, e, h.kept hk hr⟩
theorem OwnTk.wide (h : OwnTk w lo hi v xs) (hl : lo' ≤ lo) (hh : hi ≤ hi') : OwnTk w lo' hi' v xs := by
  obtain ⟨A, c, e, h⟩ := h; exact ⟨A, c, e, h.wide hl hh⟩
theorem OwnTk.rd (h : OwnTk w lo hi v xs) : RdTk w hi v xs := by
  obtain ⟨D, d, e, h⟩ := h; exact ⟨D, d, e, (OwnZ.sl (R := tkR) h).2⟩
theorem OwnTk.rdW (h : OwnTk w lo hi v xs) (hh : hi ≤ w.heap.size) : RdTk w w.heap.size v xs := h.rd.wide hh
theorem OwnTk.nil (w : World) (lo hi : Nat) : OwnTk w lo hi (.slice none 0 0) [] := ⟨none, 0, rfl, ⟨⟨rfl, .inl ⟨rfl, rfl⟩⟩, by intro ad h; cases h⟩⟩
end
theorem toTk (xs : List Tk) (v : Value) (w : World) (h : RdTk w w.heap.size v xs) (hn : xs.length ≤ 1048576) :
    Calls Try.prog 19 #[v] w fun e w' => ∃ u, e = .returned u ∧ OwnTk w' w.heap.size w'.heap.size u xs ∧ Kept 0 0 w w' := by
  obtain ⟨A, c, rfl, h⟩ := h
  exact (toTkS_any xs A c w h.rd hn).mono fun e w' ⟨D, d, he, ho, hk⟩ => ⟨_, he, ⟨D, d, rfl, ho⟩, hk⟩
theorem eqTk (xs : List Tk) (v v' : Value) (w : World) (h : RdTk w w.heap.size v xs) (h' : RdTk w w.heap.size v' xs) :
    Calls Try.prog 20 #[v, v'] w fun e w' => e = .returned (.bool true) ∧ Kept 0 0 w w' := by
  obtain ⟨A, c, rfl, h⟩ := h
  obtain ⟨A', c', rfl, h'⟩ := h'
  exact (eqTkS_any xs xs A A' c c' _ _ w (Nat.le_refl _) (Nat.le_refl _) h.rd h'.rd).mono fun e w' ⟨he, hk⟩ => ⟨by rw [he, decide_eq_true rfl], hk⟩
theorem szTk (xs : List Tk) (v : Value) (left : Int) (w : World) (B : Nat) (h : RdTk w B v xs) (h0 : 0 ≤ left) (h1 : left ≤ 1048576) :
    Calls Try.prog 18 #[v, .int .i64 left] w fun e w' => e = .returned (.int .i64 (szF left xs.length)) ∧ w = w' := by
  have hm := h.len
  obtain ⟨A, c, rfl, h⟩ := h
  exact szTkS_any A xs.length c left w h0 h1 hm
theorem markTk (k : Int) (xs : List Tk) (v : Value) (lo hi : Nat) (w : World) (h : OwnTk w lo hi v xs) (hk0 : 0 ≤ k) (hk : k ≤ 10000000) (hn : xs.length ≤ 1048576) :
    Calls Try.prog 22 #[v, .int .i64 k] w fun e w' => e = .returned (.int .i64 (k + 9 * (xs.length : Int))) ∧ OwnTk w' lo hi v (marksTk k xs.length) ∧ Kept lo hi w w' := by
  obtain ⟨D, d, rfl, h⟩ := h
  refine (markTkS_own k xs D d lo hi w h hk0 hk hn).mono fun e w' ⟨he, ho, hk'⟩ => ⟨he, ⟨D, d, by rw [marksTk_len], by rw [marksTk_len]; exact ho⟩, hk'.wide ?_⟩
  have := h.range
  omega
theorem heldTk (k : Int) (n : Nat) (v : Value) (w : World) (B : Nat) (h : RdTk w B v (marksTk k n)) (hk0 : 0 ≤ k) (hk : k ≤ 10000000) (hn : n ≤ 1048576) :
    Calls Try.prog 26 #[v, .int .i64 k] w fun e w' => e = .returned (.int .i64 (k + 9 * (n : Int))) ∧ w = w' := by
  obtain ⟨A, c, rfl, h⟩ := h
  rw [marksTk_len]
  exact heldTkS_any k n A c B w h.rd hk0 hk hn
end Go.Proofs.Ytfpnpjpcjbndoaa
