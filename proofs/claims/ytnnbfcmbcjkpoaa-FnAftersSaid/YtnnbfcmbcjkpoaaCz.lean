/- The program's CalledOff; no condition beyond that the afters can be read. -/
import Derived.Test.YtnnbfcmbcjkpoaaCy
import Derived.Test.YtnnbfcmbcjkpoaaCg
namespace Go.Proofs.Ytnnbfcmbcjkpoaa
open Go.RowKit Go.Sort

/-- Afters stored into an elder box. -/
theorem stored3 {w4 : World} {r lo lo' k1 k2 k3 : Nat} {E1 E2 E3 : Option Addr} {t : Afs} {x y z : Value} (hR : Blk w4 r 34 #[x, y, z]) (hr : r < lo) (hl : lo' ≤ lo)
    (o1 : OwnZ w4 lo w4.heap.size 2 1 E1 t.slots.ages.length k1 (iR.flat t.slots.ages)) (o2 : OwnZ w4 lo w4.heap.size 4 1 E2 t.slots.used.length k2 (bR.flat t.slots.used)) (o3 : OwnZ w4 lo w4.heap.size 42 5 E3 t.list.length k3 (afR.flat t.list)) :
    ∃ F, F = ((w4.setCell ⟨r, 0, none⟩ (.slice E1 t.slots.ages.length k1)).setCell ⟨r, 1, none⟩ (.slice E2 t.slots.used.length k2)).setCell ⟨r, 2, none⟩ (.slice E3 t.list.length k3) ∧
      Blk F r 34 #[.slice E1 t.slots.ages.length k1, .slice E2 t.slots.used.length k2, .slice E3 t.list.length k3] ∧ Kept r (r + 1) w4 F ∧ OwnAs F lo' F.heap.size (.agg #[.slice E1 t.slots.ages.length k1, .slice E2 t.slots.used.length k2, .slice E3 t.list.length k3]) t := by
  refine ⟨_, rfl, blkA hR _ _ _, keptA w4 r _ _ _, ?_⟩
  have kF := keptA w4 r (.slice E1 t.slots.ages.length k1) (.slice E2 t.slots.used.length k2) (.slice E3 t.list.length k3)
  have zF := kF.size
  refine ⟨_, _, _, rfl, ⟨E1, k1, rfl, ?_⟩, ⟨E2, k2, rfl, ?_⟩, ⟨E3, k3, rfl, ?_⟩⟩
  · exact (o1.kept kF (.inr (.inr (by omega)))).wide hl zF
  · exact (o2.kept kF (.inr (.inr (by omega)))).wide hl zF
  · exact (o3.kept kF (.inr (.inr (by omega)))).wide hl zF
theorem offB_other {s g : Int} {x : Aft} (h : hnd x ≠ (s, g)) : offB s g x = false := by
  unfold offB
  by_cases h1 : x.slot = s
  · by_cases h2 : x.age = g
    · exact absurd (by unfold hnd; rw [h1, h2]) h
    · simp [h2]
  · simp [h1]
theorem offB_same (x : Aft) : offB x.slot x.age x = (!x.queued && decide (x.age < 1000000)) := by simp [offB]
/-- In valid afters a handle stands once. -/
theorem hnd_once {a : Afs} (o : AftersP a) {i j : Nat} (hi : i < a.list.length) (hj : j < a.list.length) (h : hnd a.list[i] = hnd a.list[j]) : i = j := by
  rcases Nat.lt_trichotomy i j with hlt | he | hgt
  · have := o.diff j hj i hlt
    rw [sameH_hnd.2 h] at this
    cases this
  · exact he
  · have := o.diff i hi j hgt
    rw [sameH_hnd.2 h.symm] at this
    cases this

set_option maxRecDepth 100000 in
theorem field_q (a b c d : Value) (q : Bool) (w : World) : (Instr.field 42 (.agg #[a, b, c, d, .bool q]) 3).run Try.prog w = .ok (.bool q) w := by
  have hp : (Go.part 4 #[a, b, c, d, .bool q] 4).run Try.prog w = .ok (.bool q) w := run_part_plain w (e := 4) (by kernel_rfl) rfl
  have e : (Instr.field 42 (.agg #[a, b, c, d, .bool q]) 3).run Try.prog w = (Go.part 4 #[a, b, c, d, .bool q] 4).run Try.prog w := by
    simp only [Instr.field, Sem.run_bind, run_underlying Try.underlying42, Result.andThen]
    rfl
  rw [e, hp]
theorem wpList_fieldG {P : Program} {w : World} {ops : Array Oper} {rest : List Oper} {o : Oper} {a : Act} {Q : Exit → Act → World → Prop} (hw : Region.wanted o (yielded ops a.tmps) = true) (x : Operand) (t : TypeId) (k : Nat) (hop : o.op = Op.field t x k)
    (vx v : Value) (hx : a.eval x = vx) (hrun : (Instr.field t vx k).run P w = .ok v w) (hK : wpList P ops Q rest (a.put o.dst v) w) : wpList P ops Q (o :: rest) a w :=
  wpList_step fun _ hK' => by
    rw [if_pos hw]
    unfold Oper.wp
    simp [execOp, hop, hx, hrun, Result.andThen]
    exact hK' _ _ hK
set_option maxHeartbeats 6400000 in
set_option maxRecDepth 100000 in
theorem implOff : DoesAsC 16 := fun a s ag v w h => by
  have HA := Lib.hid h
  obtain ⟨_, _, _, rfl, ⟨A1, c1, rfl, s1⟩, ⟨A2, c2, rfl, s2⟩, ⟨A3, c3, rfl, s3⟩⟩ := h
  clear s1 s2 s3
  obtain ⟨W, hW⟩ : ∃ W, W = ((w.alloc (.cells #[.slice A1 a.slots.ages.length c1, .slice A2 a.slots.used.length c2, .slice A3 a.list.length c3] 34)).alloc (.cells #[.int .i64 s, .int .i64 ag] 40)).alloc (.cells #[.slice none 0 0, .slice none 0 0, .slice none 0 0] 34) := ⟨_, rfl⟩
  have KW : Hid (Kept 0 0 w W) := by show Kept _ _ _ _; rw [hW]; exact ((Kept.alloc0 _ _).alloc _).alloc _
  have B0 : Hid (Blk W w.heap.size 34 #[.slice A1 a.slots.ages.length c1, .slice A2 a.slots.used.length c2, .slice A3 a.list.length c3]) := by show Blk _ _ _ _; rw [hW]; exact ((Blk.new _ _ _).alloc _).alloc _
  have H0 : Hid (Blk W (w.heap.size + 1) 40 #[.int .i64 s, .int .i64 ag]) := by
    show Blk _ _ _ _
    rw [hW]
    have := Blk.new (w.alloc (.cells #[.slice A1 a.slots.ages.length c1, .slice A2 a.slots.used.length c2, .slice A3 a.list.length c3] 34)) 40 #[.int .i64 s, .int .i64 ag]
    simp only [World.size_alloc] at this
    exact this.alloc _
  have R0 : Hid (Blk W (w.heap.size + 2) 34 #[.slice none 0 0, .slice none 0 0, .slice none 0 0]) := by
    show Blk _ _ _ _
    rw [hW]
    have := Blk.new ((w.alloc (.cells #[.slice A1 a.slots.ages.length c1, .slice A2 a.slots.used.length c2, .slice A3 a.list.length c3] 34)).alloc (.cells #[.int .i64 s, .int .i64 ag] 40)) 34 #[.slice none 0 0, .slice none 0 0, .slice none 0 0]
    simpa using this
  have zW : w.heap.size + 3 ≤ W.heap.size := by rw [hW]; simp
  have HW := Lib.hid hW
  have b0 := ax0 B0.out
  have b1 := ax1 B0.out
  have b2 := ax2 B0.out
  clear hW
  have CO := Lib.hid (deferringOf_any a _ W (HA.out.up KW.out))
  go_enter Try.func16, Try.ntmps16
  go_upto_region 1 with fail
  rw [← HW.out]
  go_wp2_with fail
  clear b0 b1 b2
  with_reducible refine CO.out.mono ?_
  rintro e w1 ⟨p, rfl, hk, hdf⟩
  have K1 := Lib.hid (KW.out.trans hk)
  have B1 := Lib.hid (B0.out.kept hk (.inl (Nat.le_refl _)))
  have H1 := Lib.hid (H0.out.kept hk (.inl (Nat.le_refl _)))
  have R1 := Lib.hid (R0.out.kept hk (.inl (Nat.le_refl _)))
  have z1 := hk.size
  have HDF := Lib.hid hdf
  clear hk hdf CO B0 H0 R0 KW HW B1
  cases q1 : aftersB a
  · have E := Lib.hid (pick_bad (p := offB s ag) q1)
    have r0 := ax0 R1.out
    have r1 := ax1 R1.out
    have r2 := ax2 R1.out
    have f0 := R1.out.frozen 0
    have f1 := R1.out.frozen 1
    have f2 := R1.out.frozen 2
    have BF := blkA R1.out (.slice none 0 0) (.slice none 0 0) (.slice none 0 0)
    have F0 := ax0 BF
    have F1 := ax1 BF
    have F2 := ax2 BF
    have KF := Lib.hid (keptA w1 (w.heap.size + 2) (.slice none 0 0) (.slice none 0 0) (.slice none 0 0))
    clear q1 BF
    go_wp2_with fail
    refine bodyPost_ret (v := .tuple #[.agg #[.slice none 0 0, .slice none 0 0, .slice none 0 0], .bool false]) (by simp [results, Try.results16, go_sem, F0, F1, F2]) rfl ⟨_, ret_ub' E.out.1.symm, by rw [E.out.2.1]; exact OwnAs.asZ _ _ _, K1.out.trans2 KF.out (.inr (by omega))⟩
  have OK := Lib.hid (aftersB_true.1 q1)
  have Q1 := Lib.hid q1
  obtain ⟨g, m, D1, d1, D2, d2, D3, d3, ps, rfl, hd, hpe⟩ := HDF.out q1
  have ST : Hid (Shows w1 W.heap.size g a w1) := Shows.start OK.out hd hpe z1
  have c0 : w1.cell? ⟨w.heap.size + 1, 0, none⟩ = some (.int .i64 s) := H1.out.cell 0
  have c1 : w1.cell? ⟨w.heap.size + 1, 1, none⟩ = some (.int .i64 ag) := H1.out.cell 1
  clear q1 HDF hd hpe
  go_upto_region 4 with fail
  go_cut [8] (fun v8 wx => v8 = .bool (pickB (offB s ag) a) ∧ Hid (Shows w1 W.heap.size g (pickA (offB s ag) a) wx))
  case first =>
    by_cases hex : ∃ i, ∃ hi : i < a.list.length, hnd a.list[i] = (s, ag)
    case neg =>
      have E := Lib.hid (pick_none (p := offB s ag) Q1.out (fun j hj _ => offB_other (fun h => hex ⟨j, hj, h⟩)))
      have CH := Lib.hid (has_s_no ST.out (b := (s, ag)) (fun x hx h => by obtain ⟨i, hi, rfl⟩ := List.getElem_of_mem hx; exact hex ⟨i, hi, h⟩))
      unfold hkey at CH
      clear hex
      go_wp2_with fail
      with_reducible refine CH.out.mono ?_
      rintro e w2 ⟨rfl, hk⟩
      have S2 : Hid (Shows w1 W.heap.size g (pickA (offB s ag) a) w2) := by show Shows _ _ _ _ _; rw [E.out.2.1]; exact ST.out.kept hk
      have EB : Hid (pickB (offB s ag) a = false) := E.out.1
      clear hk CH
      go_wp2_with fail
      go_meet
      exact ⟨by rw [EB.out], S2⟩
    obtain ⟨i, hi, hih⟩ := hex
    obtain ⟨x, hx⟩ : ∃ x, x = a.list[i] := ⟨_, rfl⟩
    have HX := Lib.hid hx
    rw [← hx] at hih
    have hs1 : x.slot = s := by injection hih
    have hs2 : x.age = ag := by injection hih
    subst hs1 hs2
    have CH := Lib.hid (has_s_yes ST.out hi)
    rw [← hx] at CH
    unfold hkey hnd at CH
    clear hih hx
    go_wp2_with fail
    with_reducible refine CH.out.mono ?_
    rintro e w2 ⟨rfl, hk⟩
    have S2 := Lib.hid (ST.out.kept hk)
    have K2 := Lib.hid hk
    have H2 := Lib.hid (H1.out.kept hk (.inl (Nat.le_refl _)))
    have CF := Lib.hid (find_s S2.out hi)
    rw [← HX.out] at CF
    unfold hkey hnd afC at CF
    have c0 : w2.cell? ⟨w.heap.size + 1, 0, none⟩ = some (.int .i64 x.slot) := H2.out.cell 0
    have c1 : w2.cell? ⟨w.heap.size + 1, 1, none⟩ = some (.int .i64 x.age) := H2.out.cell 1
    clear hk CH
    go_wp2_with fail
    with_reducible refine CF.out.mono ?_
    rintro e w3 ⟨rfl, hk⟩
    have S3 := Lib.hid (S2.out.kept hk)
    have H3 := Lib.hid (H2.out.kept hk (.inl (Nat.le_refl _)))
    have c0 : w3.cell? ⟨w.heap.size + 1, 0, none⟩ = some (.int .i64 x.slot) := H3.out.cell 0
    have c1 : w3.cell? ⟨w.heap.size + 1, 1, none⟩ = some (.int .i64 x.age) := H3.out.cell 1
    clear hk CF
    have FQ := Lib.hid (field_q (.int .i64 x.slot) (.int .i64 x.age) (.int .i64 x.node) (.int .i64 x.func) x.queued w3)
    have other : Hid (∀ j (hj : j < a.list.length), j ≠ i → offB x.slot x.age a.list[j] = false) := fun j hj hji => offB_other (fun h => hji (hnd_once OK.out hj hi (by rw [h, ← HX.out]; rfl)))
    cases hq : x.queued
    case true =>
      rw [hq] at FQ
      have E := Lib.hid (pick_none (p := offB x.slot x.age) Q1.out (fun j hj _ => by
        by_cases hji : j = i
        · subst hji; rw [← HX.out, offB_same, hq]; rfl
        · exact other.out j hj hji))
      have S4 : Hid (Shows w1 W.heap.size g (pickA (offB x.slot x.age) a) w3) := by show Shows _ _ _ _ _; rw [E.out.2.1]; exact S3.out
      clear hq
      go_wp2_with (refine wpList_fieldG (by rfl) (.tmp 23) 42 3 rfl _ _ rfl FQ.out ?_)
      go_meet
      exact ⟨by rw [E.out.1], S4⟩
    rw [hq] at FQ
    have DA : Hid (dropSB a.slots x.slot x.age = decide (x.age < 1000000)) := by show _ = _; have := drop_of_after OK.out hi; rwa [← HX.out] at this
    cases hl : decide (x.age < 1000000)
    · have E := Lib.hid (pick_none (p := offB x.slot x.age) Q1.out (fun j hj _ => by
        by_cases hji : j = i
        · subst hji; rw [← HX.out, offB_same, hl, Bool.and_false]
        · exact other.out j hj hji))
      have CR := Lib.hid (remove_s_no S3.out (b := (x.slot, x.age)) (by rw [DA.out, hl]))
      unfold hkey at CR
      clear hq hl
      go_wp2_with (refine wpList_fieldG (by rfl) (.tmp 23) 42 3 rfl _ _ rfl FQ.out ?_)
      with_reducible refine CR.out.mono ?_
      rintro e w4 ⟨rfl, hk⟩
      have S4 : Hid (Shows w1 W.heap.size g (pickA (offB x.slot x.age) a) w4) := by show Shows _ _ _ _ _; rw [E.out.2.1]; exact S3.out.kept hk
      clear hk CR
      go_wp2_with fail
      go_meet
      exact ⟨by rw [E.out.1], S4⟩
    · have E := Lib.hid (pick_some (p := offB x.slot x.age) Q1.out hi (by rw [← HX.out, offB_same, hq, hl]; rfl) (fun j hj hji => other.out j hj (by omega)))
      have CR := Lib.hid (remove_s_yes S3.out hi (by rw [← HX.out, DA.out, hl]))
      rw [← HX.out] at CR
      unfold hkey hnd at CR
      clear hq hl
      go_wp2_with (refine wpList_fieldG (by rfl) (.tmp 23) 42 3 rfl _ _ rfl FQ.out ?_)
      with_reducible refine CR.out.mono ?_
      rintro e w4 ⟨rfl, hsh, _⟩
      have S4 : Hid (Shows w1 W.heap.size g (pickA (offB x.slot x.age) a) w4) := by show Shows _ _ _ _ _; rw [E.out.2.1]; exact hsh
      clear hsh CR
      go_wp2_with fail
      go_meet
      exact ⟨by rw [E.out.1], S4⟩
  case rest =>
    obtain ⟨X, rfl⟩ : ∃ X : World, X = wc := ⟨_, rfl⟩
    obtain ⟨rfl, SX⟩ := hcut
    have BX := SX.out.below
    have RX := Lib.hid (R1.out.below BX (by omega))
    have KX : Hid (Kept 0 0 w X) := K1.out.trans2 (Kept.of_below_from BX) (.inr (by omega))
    have CS := Lib.hid (shown_s SX.out)
    have zX := BX.size
    clear BX c0 c1
    obtain ⟨t, ht⟩ : ∃ t, t = pickA (offB s ag) a := ⟨_, rfl⟩
    rw [← ht] at CS
    obtain ⟨bb, hbb⟩ : ∃ bb, bb = pickB (offB s ag) a := ⟨_, rfl⟩
    rw [← hbb]
    have HT := Lib.hid ht
    have HBB := Lib.hid hbb
    clear ht hbb
    go_wp2_with fail
    with_reducible refine CS.out.mono ?_
    rintro e w4 ⟨_, rfl, ⟨_, _, _, rfl, ⟨E1, k1, rfl, o1⟩, ⟨E2, k2, rfl, o2⟩, ⟨E3, k3, rfl, o3⟩⟩, hk4⟩
    have R4 := Lib.hid (RX.out.kept hk4 (.inl (Nat.le_refl _)))
    have r0 := ax0 R4.out
    have f0 := R4.out.frozen 0
    have r1 := ax1 R4.out
    have f1 := R4.out.frozen 1
    have r2 := ax2 R4.out
    have f2 := R4.out.frozen 2
    obtain ⟨F, hF, BF, kF, res⟩ := stored3 (lo' := w.heap.size) R4.out (by omega) (by omega) o1 o2 o3
    have RES := Lib.hid res
    have KF : Hid (Kept 0 0 w F) := (KX.out.trans hk4).trans2 kF (.inr (by omega))
    have FF := Lib.hid (And.intro (ax0 BF) (And.intro (ax1 BF) (ax2 BF)))
    have HF := Lib.hid hF
    clear hF BF kF res o1 o2 o3 hk4 CS
    go_wp2_with fail
    rw [← HF.out]
    obtain ⟨F0, F1, F2⟩ := FF.out
    refine bodyPost_ret (v := .tuple #[.agg #[.slice E1 t.slots.ages.length k1, .slice E2 t.slots.used.length k2, .slice E3 t.list.length k3], .bool bb]) (by simp only [results, Try.results16]; simp [go_sem, F0, F1, F2]) rfl ⟨_, by rw [HBB.out], by rw [← HT.out]; exact RES.out, KF.out⟩
end Go.Proofs.Ytnnbfcmbcjkpoaa
