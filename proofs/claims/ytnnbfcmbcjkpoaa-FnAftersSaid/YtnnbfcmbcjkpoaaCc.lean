/- Afters on paper, and the reference's AftersOk; no condition beyond that the afters can be read. -/
import Derived.Test.YtnnbfcmbcjkpoaaCb
import Derived.Test.YtnnbfcmbcjkpoaaBj
import Derived.Lib.QuietBelow
namespace Go.Proofs.Ytnnbfcmbcjkpoaa
open Go.RowKit Go.Sort

def inR (x lo hi : Int) : Bool := decide (lo ≤ x) && decide (x ≤ hi)
theorem inR_true {x lo hi : Int} : inR x lo hi = true ↔ lo ≤ x ∧ x ≤ hi := by simp [inR]
def aftB (s : Slt) (x : Aft) : Bool := slHolds s x.slot x.age && (inR x.node 0 59 && inR x.func 0 99)
def sameH (x y : Aft) : Bool := (x.slot == y.slot) && (x.age == y.age)
/-- Valid afters. -/
structure AftersP (a : Afs) : Prop where
  slots : slB a.slots = true
  count : (a.list.length : Int) = slUsed a.slots
  each : ∀ i (h : i < a.list.length), aftB a.slots a.list[i] = true
  diff : ∀ i (h : i < a.list.length) k (hk : k < i), sameH a.list[k] a.list[i] = false
open Classical in
noncomputable def aftersB (a : Afs) : Bool := decide (AftersP a)
theorem aftersB_true {a : Afs} : aftersB a = true ↔ AftersP a := by simp [aftersB]
theorem aftersB_false {a : Afs} : aftersB a = false ↔ ¬ AftersP a := by simp [aftersB]
/-- The first k are as they may be. -/
def PreA (a : Afs) (n : Nat) : Prop := ∀ i (h : i < a.list.length), i < n → aftB a.slots a.list[i] = true ∧ ∀ k (hk : k < i), sameH a.list[k] a.list[i] = false
/-- Element i has another handle than the first n. -/
def PreD (a : Afs) (i : Nat) (h : i < a.list.length) (n : Nat) : Prop := ∀ k (hk : k < i), k < n → sameH a.list[k] a.list[i] = false
theorem PreA.zero (a : Afs) : PreA a 0 := fun i _ h => by omega
theorem PreD.zero (a : Afs) (i : Nat) (h : i < a.list.length) : PreD a i h 0 := fun k _ h => by omega
theorem PreD.succ {a : Afs} {i n : Nat} {h : i < a.list.length} (hd : PreD a i h n) (hn : n < i) (h1 : sameH a.list[n] a.list[i] = false) : PreD a i h (n + 1) := fun k hk hkn => by
  rcases Nat.lt_or_ge k n with h' | h'
  · exact hd k hk h'
  · obtain rfl : k = n := by omega
    exact h1
theorem PreA.succ {a : Afs} {n : Nat} (hp : PreA a n) (h : n < a.list.length) (h1 : aftB a.slots a.list[n] = true) (hd : PreD a n h n) : PreA a (n + 1) := fun i hi hin => by
  rcases Nat.lt_or_ge i n with h' | h'
  · exact hp i hi h'
  · obtain rfl : i = n := by omega
    exact ⟨h1, fun k hk => hd k hk hk⟩
theorem PreA.all {a : Afs} {n : Nat} (hp : PreA a n) (h1 : slB a.slots = true) (h2 : (a.list.length : Int) = slUsed a.slots) (hn : a.list.length ≤ n) : aftersB a = true :=
  aftersB_true.2 ⟨h1, h2, fun i hi => (hp i hi (by omega)).1, fun i hi k hk => (hp i hi (by omega)).2 k hk⟩
theorem not_as_slots {a : Afs} (h : slB a.slots = false) : aftersB a = false := aftersB_false.2 fun o => by have := o.slots; rw [h] at this; cases this
theorem not_as_count {a : Afs} (h : (a.list.length : Int) ≠ slUsed a.slots) : aftersB a = false := aftersB_false.2 fun o => h o.count
theorem not_as_each {a : Afs} {i : Nat} (hi : i < a.list.length) (h : aftB a.slots a.list[i] = false) : aftersB a = false := aftersB_false.2 fun o => by have := o.each i hi; rw [h] at this; cases this
theorem not_as_diff {a : Afs} {i k : Nat} (hi : i < a.list.length) (hk : k < i) (h : sameH a.list[k] a.list[i] = true) : aftersB a = false := aftersB_false.2 fun o => by have := o.diff i hi k hk; rw [h] at this; cases this
/-- As many as slots: at most 64. -/
theorem usedIn_le (s : Slt) : slUsed s ≤ 64 := by
  unfold slUsed usedIn
  split
  · rename_i h
    have h1 := slotsOk_len h
    have h2 := cntT_bd s.used s.used.length
    omega
  · omega
theorem AftersP.len {a : Afs} (o : AftersP a) : a.list.length ≤ 64 := by have := o.count; have := usedIn_le a.slots; omega

set_option maxHeartbeats 6400000 in
set_option maxRecDepth 100000 in
theorem as8_any (a : Afs) (v : Value) (w : World) (h : RdAs w w.heap.size v a) :
    Calls Try.prog 21 #[v] w fun e w' => e = .returned (.bool (aftersB a)) ∧ Kept 0 0 w w' := by
  have HA := Lib.hid h
  obtain ⟨_, _, _, rfl, ⟨A1, c1, rfl, s1⟩, ⟨A2, c2, rfl, s2⟩, ⟨A3, c3, rfl, s3⟩⟩ := h
  have m3 := s3.rd.1
  unfold maxLen at m3
  have S3 := Lib.hid s3.rd
  clear s1 s2 s3
  obtain ⟨W, hW⟩ : ∃ W, W = w.alloc (.cells #[.slice A1 a.slots.ages.length c1, .slice A2 a.slots.used.length c2, .slice A3 a.list.length c3] 34) := ⟨_, rfl⟩
  have KW : Hid (Kept 0 0 w W) := by show Kept _ _ _ _; rw [hW]; exact Kept.alloc0 _ _
  have B0 : Hid (Blk W w.heap.size 34 #[.slice A1 a.slots.ages.length c1, .slice A2 a.slots.used.length c2, .slice A3 a.list.length c3]) := by show Blk _ _ _ _; rw [hW]; exact Blk.new _ _ _
  have HW := Lib.hid hW
  clear hW
  have RS : Hid (∀ X, Kept 0 0 w X → RdSl X X.heap.size (.agg #[.slice A1 a.slots.ages.length c1, .slice A2 a.slots.used.length c2]) a.slots) := fun X hX => (HA.out.up hX).sl.1
  have CO1 := Lib.hid (fun d os => regrown_call (specSl a.slots _ (grow (redrawn W d) os) (RS.out _ (KW.out.trans (Kept.regrown W d os)))))
  have CO2 := Lib.hid (fun d os => regrown_call (specUsed a.slots _ (grow (redrawn W d) os) (RS.out _ (KW.out.trans (Kept.regrown W d os)))))
  go_enter Try.func21, Try.ntmps21
  go_upto_region 1 with fail
  rw [← HW.out]
  have b0 : W.cell? ⟨w.heap.size, 0, none⟩ = some (.slice A1 a.slots.ages.length c1) := B0.out.cell 0
  have b1 : W.cell? ⟨w.heap.size, 1, none⟩ = some (.slice A2 a.slots.used.length c2) := B0.out.cell 1
  have b2 : W.cell? ⟨w.heap.size, 2, none⟩ = some (.slice A3 a.list.length c3) := B0.out.cell 2
  have k0 := cell_regrown b0
  have k1 := cell_regrown b1
  have k2 := cell_regrown b2
  clear b0 b1 b2 HW
  cases q1 : slB a.slots
  · have E : Hid (aftersB a = false) := not_as_slots q1
    rw [q1] at CO1
    clear q1
    refine wp_region_quiet_below (by kernel_rfl) (by kernel_rfl) ?_
    repeat (first | go_big_quiet_step (exact CO1.out _ _) | quiet_step (exact CO1.out _ _))
    refine wpQuiet_nil ?_
    intro _ hw'
    obtain ⟨⟨dq, osq⟩, hw''⟩ := hw'
    subst hw''
    go_wp2
    go_ret
    exact ⟨ret_bool E.out.symm, KW.out.trans (Kept.regrown W dq osq)⟩
  have Q1 := Lib.hid q1
  rw [q1] at CO1
  clear q1
  obtain ⟨us, hus⟩ : ∃ us, us = slUsed a.slots := ⟨_, rfl⟩
  have U64 := usedIn_le a.slots
  rw [← hus] at CO2 U64
  by_cases q2 : (a.list.length : Int) = us
  case neg =>
    have E : Hid (aftersB a = false) := not_as_count (by rw [← hus]; exact q2)
    have g2 : ((a.list.length : Int) != us) = true := by simpa using q2
    clear q2 hus
    refine wp_region_quiet_below (by kernel_rfl) (by kernel_rfl) ?_
    repeat (first | go_big_quiet_step (first | with_reducible exact CO1.out _ _ | with_reducible exact CO2.out _ _) | quiet_step (first | with_reducible exact CO1.out _ _ | with_reducible exact CO2.out _ _))
    refine wpQuiet_nil ?_
    intro _ hw'
    obtain ⟨⟨dq, osq⟩, hw''⟩ := hw'
    subst hw''
    go_wp2
    go_ret
    exact ⟨ret_bool E.out.symm, KW.out.trans (Kept.regrown W dq osq)⟩
  have Q2 : Hid ((a.list.length : Int) = slUsed a.slots) := by show _ = _; rw [← hus]; exact q2
  have g2 : ((a.list.length : Int) != us) = false := by simp [q2]
  have l64 : a.list.length ≤ 64 := by omega
  clear q2 hus
  refine wp_region_quiet_below (by kernel_rfl) (by kernel_rfl) ?_
  repeat (first | go_big_quiet_step (first | with_reducible exact CO1.out _ _ | with_reducible exact CO2.out _ _) | quiet_step (first | with_reducible exact CO1.out _ _ | with_reducible exact CO2.out _ _))
  refine wpQuiet_nil ?_
  intro _ hw'
  obtain ⟨⟨dq, osq⟩, hw''⟩ := hw'
  subst hw''
  obtain ⟨w1, hw1⟩ : ∃ w1, w1 = grow (redrawn W dq) osq := ⟨_, rfl⟩
  have K1 : Hid (Kept 0 0 w w1) := by show Kept _ _ _ _; rw [hw1]; exact KW.out.trans (Kept.regrown W dq osq)
  have B1 : Hid (Blk w1 w.heap.size 34 #[.slice A1 a.slots.ages.length c1, .slice A2 a.slots.used.length c2, .slice A3 a.list.length c3]) := by show Blk _ _ _ _; rw [hw1]; exact B0.out.kept (Kept.regrown W dq osq) (.inl (Nat.le_refl _))
  have HW1 := Lib.hid hw1
  rw [← hw1]
  clear hw1 k0 k1 k2 CO1 CO2 g2 U64 B0 KW HW1
  go_wp2_with fail
  go_loopw [3] (fun i wr => ∃ n : Nat, n ≤ a.list.length ∧ i = .int .i64 n ∧ Hid (PreA a n) ∧ Hid (Kept 0 0 w1 wr)) (fun i _ => a.list.length - (intOf i).toNat)
  case atStart => exact ⟨0, Nat.zero_le _, rfl, Lib.hid (PreA.zero a), Lib.hid (Kept.refl _ _ _)⟩
  case round =>
    obtain ⟨n, hn, rfl, HP, HK⟩ := hrel
    have BR := Lib.hid (B1.out.kept HK.out (.inl (Nat.le_refl _)))
    have KR := Lib.hid (K1.out.trans HK.out)
    have b2 : wr.cell? ⟨w.heap.size, 2, none⟩ = some (.slice A3 a.list.length c3) := BR.out.cell 2
    by_cases hlt : n < a.list.length
    · have i1 : (n : Int) < (a.list.length : Int) := by omega
      obtain ⟨ad, rfl, _, e0, e1, e2, e3, e4⟩ := (S3.out.kept (Nat.le_refl _) KR.out (.inl (Nat.le_refl _))).af hlt
      obtain ⟨x, hx⟩ : ∃ x, x = a.list[n] := ⟨_, rfl⟩
      rw [← hx] at e0 e1 e2 e3 e4
      have HX := Lib.hid hx
      clear hx
      obtain ⟨X, hX⟩ : ∃ X, X = wr.alloc (.cells #[.int .i64 x.slot, .int .i64 x.age, .int .i64 x.node, .int .i64 x.func, .bool x.queued] 42) := ⟨_, rfl⟩
      have kX : Kept 0 0 wr X := by rw [hX]; exact Kept.alloc0 _ _
      have BX : Hid (Blk X wr.heap.size 42 #[.int .i64 x.slot, .int .i64 x.age, .int .i64 x.node, .int .i64 x.func, .bool x.queued]) := by show Blk _ _ _ _; rw [hX]; exact Blk.new _ _ _
      have BA := Lib.hid (BR.out.kept kX (.inl (Nat.le_refl _)))
      have KX := Lib.hid (KR.out.trans kX)
      have KX1 := Lib.hid (HK.out.trans kX)
      have HXX := Lib.hid hX
      clear hX kX
      have CH := Lib.hid (specHolds a.slots x.slot x.age _ X (RS.out X KX.out))
      go_upto_region 7 with fail
      rw [← HXX.out]
      clear e0 e1 e2 e3 e4 b2 HXX
      have b0 : X.cell? ⟨w.heap.size, 0, none⟩ = some (.slice A1 a.slots.ages.length c1) := BA.out.cell 0
      have b1 : X.cell? ⟨w.heap.size, 1, none⟩ = some (.slice A2 a.slots.used.length c2) := BA.out.cell 1
      have x0 : X.cell? ⟨wr.heap.size, 0, none⟩ = some (.int .i64 x.slot) := BX.out.cell 0
      have x1 : X.cell? ⟨wr.heap.size, 1, none⟩ = some (.int .i64 x.age) := BX.out.cell 1
      go_wp2_with fail
      with_reducible refine CH.out.mono ?_
      rintro e w2 ⟨rfl, hk⟩
      have BX2 := Lib.hid (BX.out.kept hk (.inl (Nat.le_refl _)))
      have BA2 := Lib.hid (BA.out.kept hk (.inl (Nat.le_refl _)))
      have K2 := Lib.hid (KX.out.trans hk)
      have K2' := Lib.hid (KX1.out.trans hk)
      clear hk CH b0 b1 x0 x1 BX BA
      have x2 : w2.cell? ⟨wr.heap.size, 2, none⟩ = some (.int .i64 x.node) := BX2.out.cell 2
      have x3 : w2.cell? ⟨wr.heap.size, 3, none⟩ = some (.int .i64 x.func) := BX2.out.cell 3
      cases q3 : slHolds a.slots x.slot x.age
      · have E : Hid (aftersB a = false) := not_as_each hlt (by rw [← HX.out]; unfold aftB; rw [q3]; rfl)
        clear q3
        go_wp2
        go_ret
        exact ⟨ret_bool E.out.symm, K2.out⟩
      have Q3 := Lib.hid q3
      clear q3
      go_wp2_with fail
      with_reducible refine (l1In_any _ _ _ _).mono ?_
      rintro e w' ⟨rfl, rfl⟩
      cases q4 : (decide (0 ≤ x.node) && decide (x.node ≤ 59))
      · have E : Hid (aftersB a = false) := not_as_each hlt (by rw [← HX.out]; unfold aftB inR; rw [Q3.out, q4]; rfl)
        clear q4
        go_wp2
        go_ret
        exact ⟨ret_bool E.out.symm, K2.out⟩
      have Q4 := Lib.hid q4
      clear q4
      go_wp2_with fail
      with_reducible refine (l1In_any _ _ _ _).mono ?_
      rintro e w' ⟨rfl, rfl⟩
      cases q5 : (decide (0 ≤ x.func) && decide (x.func ≤ 99))
      · have E : Hid (aftersB a = false) := not_as_each hlt (by rw [← HX.out]; unfold aftB inR; rw [Q3.out, Q4.out, q5]; rfl)
        clear q5
        go_wp2
        go_ret
        exact ⟨ret_bool E.out.symm, K2.out⟩
      have EA : Hid (aftB a.slots a.list[n] = true) := by show _ = _; rw [← HX.out]; unfold aftB inR; rw [Q3.out, Q4.out, q5]; rfl
      clear q5 x2 x3
      go_wp2_with fail
      go_loopw [5] (fun i wr2 => ∃ m : Nat, m ≤ n ∧ i = .int .i64 m ∧ Hid (PreD a n hlt m) ∧ Hid (Kept 0 0 w2 wr2)) (fun i _ => n - (intOf i).toNat)
      case atStart => exact ⟨0, Nat.zero_le _, rfl, Lib.hid (PreD.zero a n hlt), Lib.hid (Kept.refl _ _ _)⟩
      case round =>
        obtain ⟨m, hm, rfl, HD, HK2⟩ := hrel
        by_cases hmt : m < n
        · have j1 : (m : Int) < (n : Int) := by omega
          have hml : m < a.list.length := by omega
          have j2 : (m : Int) < (a.list.length : Int) := by omega
          have BA3 := Lib.hid (BA2.out.kept HK2.out (.inl (Nat.le_refl _)))
          have BX3 := Lib.hid (BX2.out.kept HK2.out (.inl (Nat.le_refl _)))
          have KM := Lib.hid (K2.out.trans HK2.out)
          obtain ⟨ad', e', _, e0, e1, _, _, _⟩ := (S3.out.kept (Nat.le_refl _) KM.out (.inl (Nat.le_refl _))).af hml
          injection e' with e'
          subst e'
          obtain ⟨y, hy⟩ : ∃ y, y = a.list[m] := ⟨_, rfl⟩
          rw [← hy] at e0 e1
          have HY := Lib.hid hy
          have b2 := BA3.out.cell 2
          have x0 := BX3.out.cell 0
          have x1 := BX3.out.cell 1
          simp only [List.getElem?_toArray, List.getElem?_cons_succ, List.getElem?_cons_zero] at b2 x0 x1
          clear hy
          go_upto_region 12 with fail
          by_cases d0 : y.slot = x.slot
          case neg =>
            have ED : Hid (PreD a n hlt (m + 1)) := HD.out.succ hmt (by rw [← HY.out, ← HX.out]; unfold sameH; simp [d0])
            have KF := Lib.hid HK2.out.drew
            go_region
            go_wp2_with fail
            go_roundw
            case rel => exact ⟨m + 1, by omega, by go_num, ED, KF⟩
            case measure => simp [intOf]; omega
          by_cases d1 : y.age = x.age
          case neg =>
            have ED : Hid (PreD a n hlt (m + 1)) := HD.out.succ hmt (by rw [← HY.out, ← HX.out]; unfold sameH; simp [d0, d1])
            have KF := Lib.hid HK2.out.drew
            go_region
            go_wp2_with fail
            go_roundw
            case rel => exact ⟨m + 1, by omega, by go_num, ED, KF⟩
            case measure => simp [intOf]; omega
          have ED : Hid (aftersB a = false) := not_as_diff hlt hmt (by rw [← HY.out, ← HX.out]; unfold sameH; simp [d0, d1])
          have KF := Lib.hid (K2.out.trans HK2.out.drew)
          go_region
          go_wp2
          go_ret
          exact ⟨ret_bool ED.out.symm, KF.out⟩
        · have ED : Hid (PreA a (n + 1)) := HP.out.succ hlt EA.out (by have := HD.out; rwa [show m = n by omega] at this)
          have j1 : ¬ (m : Int) < (n : Int) := by omega
          have KF := Lib.hid (K2'.out.trans HK2.out)
          go_wp2_with fail
          go_roundw
          case rel => exact ⟨n + 1, by omega, by go_num, ED, KF⟩
          case measure => simp [intOf]; omega
    · have E : Hid (aftersB a = true) := HP.out.all Q1.out Q2.out (by omega)
      go_wp2
      go_ret
      exact ⟨ret_bool E.out.symm, KR.out⟩
end Go.Proofs.Ytnnbfcmbcjkpoaa
