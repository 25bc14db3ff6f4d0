/- The law FnSpreadAll returns true for every code of at most 4096 bytes; no condition beyond that the code can be read. -/
import Derived.Test.YtlfbmjfbebbdlaaWt
import Derived.Test.YtlfbmjfbebbdlaaWh
import Derived.Test.YtlfbmjfbebbdlaaNv
import Derived.Test.YtlfbmjfbebbdlaaDf
namespace Go.Proofs.Ytlfbmjfbebbdlaa
open Go.RowKit Go.Sort

set_option maxHeartbeats 800000 in
theorem hasL_any (xs : List Int) (x : Int) (v : Value) (w : World) (h : RdI w w.heap.size v xs) :
    Calls Try.prog 14 #[v, .int .i64 x] w fun e w' => e = .returned (.bool (decide (x ∈ xs))) ∧ Kept 0 0 w w' := by
  obtain ⟨A, c, rfl, h⟩ := h
  have hl := h.rd.1
  unfold maxLen at hl
  have H := Lib.hid h.rd
  clear h
  go_enter Try.func14, Try.ntmps14
  go_wp2
  go_loopw [5] (fun i wr => ∃ k : Nat, k ≤ xs.length ∧ i = .int .i64 k ∧ Hid (∀ i (h : i < xs.length), i < k → xs[i] ≠ x) ∧ Hid (Kept 0 0 w wr)) (fun i _ => xs.length - (intOf i).toNat)
  case atStart => exact ⟨0, Nat.zero_le _, rfl, Lib.hid (fun i _ h => by omega), Lib.hid (Kept.refl _ _ _)⟩
  case round =>
    obtain ⟨k, hk, rfl, HN, HK⟩ := hrel
    by_cases hlt : k < xs.length
    · obtain ⟨ad, rfl, _, c0⟩ := (H.out.kept (Nat.le_refl _) HK.out (.inl (Nat.le_refl _))).i hlt
      have i1 : (k : Int) < (xs.length : Int) := by omega
      by_cases he : xs[k] = x
      · have E : Hid (decide (x ∈ xs) = true) := by show _ = _; rw [← he]; simp
        rw [he] at c0
        clear he
        go_wp2
        go_ret
        exact ⟨ret_bool E.out.symm, HK.out⟩
      · have he' : (xs[k] == x) = false := by simpa using he
        have HN2 : Hid (∀ i (h : i < xs.length), i < k + 1 → xs[i] ≠ x) := fun i hi hik => by
          rcases Nat.lt_or_ge i k with h' | h'
          · exact HN.out i hi h'
          · obtain rfl : i = k := by omega
            exact he
        clear he
        go_wp2
        go_roundw
        case rel => exact ⟨k + 1, by omega, by go_num, HN2, HK⟩
        case measure => simp [intOf]; omega
    · have E : Hid (decide (x ∈ xs) = false) := by
        show _ = _
        rw [decide_eq_false_iff_not]
        intro hx
        obtain ⟨i, hi, he⟩ := List.getElem_of_mem hx
        exact HN.out i hi (by omega) he
      go_wp2
      go_ret
      exact ⟨ret_bool E.out.symm, HK.out⟩

theorem begunB_no {t : List Nd} {s : Spr} {n : Int} (h : ¬ (treeB t = true ∧ 0 ≤ n ∧ n < t.length)) : begunB t s n = false := by
  unfold begunB
  cases h1 : spreadB t s
  · rfl
  · have o := (spreadB_true.1 h1).tree
    have : inB t n = false := by
      cases h2 : inB t n
      · rfl
      · exact absurd ⟨treeB_true.2 o, inB_true.1 h2⟩ h
    simp [this]
/-- A spread with nothing told and no work. -/
def freshS (t : List Nd) : Spr := ⟨List.replicate t.length false, []⟩
theorem fresh_ok {t : List Nd} (o : TreeP t) : SprP t (freshS t) := ⟨o, by simp [freshS], by simp [freshS], fun i h => by simp [freshS] at h⟩
theorem fresh_begun {t : List Nd} (o : TreeP t) {n : Int} (h0 : 0 ≤ n) (h1 : n < t.length) : begunB t (freshS t) n = true ∧ begunS t (freshS t) n = ⟨List.replicate t.length false, [n]⟩ := by
  have h := begun_in (t := t) (s := freshS t) (n := n) (spreadB_true.2 (fresh_ok o)) (by simp [inB_true.2 ⟨h0, h1⟩, freshS])
  exact ⟨h.1, by rw [h.2]; simp [freshS]⟩
theorem replicate_flat (n : Nat) : List.replicate n (Value.bool false) = bR.flat (List.replicate n false) := by rw [bR_flat, List.map_replicate]
theorem begun_ok {t : List Nd} (o : TreeP t) {n : Int} (h0 : 0 ≤ n) (h1 : n < t.length) : SprP t ⟨List.replicate t.length false, [n]⟩ :=
  ⟨o, by simp, by simp, fun i h => by simp at h; subst h; exact ⟨h0, h1⟩⟩

set_option maxHeartbeats 6400000 in
set_option maxRecDepth 100000 in
theorem lawSprAll_small (xs : List Int) (A : Option Addr) (c : Nat) (w : World) (h : Rd (Value.int .u8) w w.heap.size A xs) (hx : ∀ x ∈ xs, 0 ≤ x ∧ x ≤ 255) (hl : xs.length ≤ 4096) :
    Calls Try.prog 3 #[.slice A xs.length c] w fun e w' => e = .returned (.bool true) ∧ Kept 0 0 w w' := by
  obtain ⟨i0, hi, hz0, hz1, hz2⟩ := info_parts Try.infoB
  have hm := h.1
  have hbig : decide (4096 < xs.length) = false := by simpa using hl
  have H := Lib.hid h
  have HX := Lib.hid hx
  clear h hx
  go_enter Try.func3, Try.ntmps3
  go_wp2_with fail
  with_reducible refine (big_any _ _ _ _ hm).mono ?_
  rintro e w' ⟨rfl, rfl⟩
  rw [hbig]
  clear hbig
  go_wp2_with fail
  with_reducible refine (drawChainOf_any _ _ _ _ H.out HX.out hl).mono ?_
  rintro e w1 ⟨v, t, n, rfl, tl, ho, hk⟩
  have O1 := Lib.hid ho
  have K1 := Lib.hid hk
  have z1 := hk.size
  obtain ⟨D, d, ev, -⟩ := ho
  subst ev
  clear hk H HX hm hl
  go_wp2_with fail
  with_reducible refine (tree5_any t _ _ (O1.out.rdW (Nat.le_refl _))).mono ?_
  rintro e w2 ⟨rfl, hk⟩
  have O2 := Lib.hid (O1.out.kept hk (.inl (Nat.le_refl _)))
  have K2 := Lib.hid (K1.out.trans hk)
  have z2 := hk.size
  clear hk O1 K1
  have NO : Hid (¬ (treeB t = true ∧ 0 ≤ n ∧ n < t.length) → begunB t (freshS t) n = false) := begunB_no
  cases q1 : treeB t
  · have EB : Hid (begunB t (freshS t) n = false) := NO.out (by rw [q1]; simp)
    clear q1 NO
    go_upto_region 5 with fail
    go_wp2_with (refine wpList_make_full _ rfl _ _ 28 rfl w2.heap.size 4 i0 (.bool false) 1 Try.underlying28 hi hz0 hz1 _ _ _ _ t.length rfl rfl rfl rfl (by rw [hz2]; omega) (by unfold maxLen; omega) (Nat.le_refl _) ?_; intro w3 hown hg)
    have OB : OwnB w3 w2.heap.size w3.heap.size (.slice (some ⟨w2.heap.size, 0, none⟩) (freshS t).told.length t.length) (freshS t).told := ⟨_, _, rfl, OwnZ.of_row (by have h := hown; simp only [Value.cells, toList_madeCells_one] at h; rw [replicate_flat] at h; simpa [freshS] using h)⟩
    have K3 := Lib.hid (Kept.of_grown (lo := 0) (hi := 0) hg (by intro k hk; cases hk))
    have O3 := Lib.hid (O2.out.kept K3.out (.inl (Nat.le_refl _)))
    have z3 := K3.out.size
    have HS : Hid (RdS w3 w3.heap.size (.agg #[.slice (some ⟨w2.heap.size, 0, none⟩) t.length t.length, .slice none 0 0]) (freshS t)) := by
      have e : (freshS t).told.length = t.length := by simp [freshS]
      rw [e] at OB
      exact ⟨_, _, rfl, OB.rdW (Nat.le_refl _), (OwnI.nil w3 0 0).rdW (Nat.zero_le _)⟩
    have CB := Lib.hid (implBegun t (freshS t) n _ _ w3 (O3.out.rdW (by omega)) HS.out)
    clear hown hg OB
    rw [EB.out] at CB
    go_wp2_with fail
    with_reducible refine CB.out.mono ?_
    rintro e w4 ⟨_, rfl, ⟨_, _, rfl, ⟨DA, dA, rfl, oa⟩, ⟨DB, dB, rfl, ob⟩⟩, hk⟩
    have K4 := Lib.hid ((K2.out.trans K3.out).trans hk)
    clear hk oa ob CB
    go_wp2_with fail
    go_ret
    exact ⟨rfl, K4.out.alloc _⟩
  by_cases q2 : n < 0
  · have EB : Hid (begunB t (freshS t) n = false) := NO.out (by omega)
    have g2 : decide (n < 0) = true := by simpa using q2
    clear q1 q2 NO
    go_upto_region 5 with fail
    go_wp2_with (refine wpList_make_full _ rfl _ _ 28 rfl w2.heap.size 4 i0 (.bool false) 1 Try.underlying28 hi hz0 hz1 _ _ _ _ t.length rfl rfl rfl rfl (by rw [hz2]; omega) (by unfold maxLen; omega) (Nat.le_refl _) ?_; intro w3 hown hg)
    have OB : OwnB w3 w2.heap.size w3.heap.size (.slice (some ⟨w2.heap.size, 0, none⟩) (freshS t).told.length t.length) (freshS t).told := ⟨_, _, rfl, OwnZ.of_row (by have h := hown; simp only [Value.cells, toList_madeCells_one] at h; rw [replicate_flat] at h; simpa [freshS] using h)⟩
    have K3 := Lib.hid (Kept.of_grown (lo := 0) (hi := 0) hg (by intro k hk; cases hk))
    have O3 := Lib.hid (O2.out.kept K3.out (.inl (Nat.le_refl _)))
    have z3 := K3.out.size
    have HS : Hid (RdS w3 w3.heap.size (.agg #[.slice (some ⟨w2.heap.size, 0, none⟩) t.length t.length, .slice none 0 0]) (freshS t)) := by
      have e : (freshS t).told.length = t.length := by simp [freshS]
      rw [e] at OB
      exact ⟨_, _, rfl, OB.rdW (Nat.le_refl _), (OwnI.nil w3 0 0).rdW (Nat.zero_le _)⟩
    have CB := Lib.hid (implBegun t (freshS t) n _ _ w3 (O3.out.rdW (by omega)) HS.out)
    clear hown hg OB
    rw [EB.out] at CB
    go_wp2_with fail
    with_reducible refine CB.out.mono ?_
    rintro e w4 ⟨_, rfl, ⟨_, _, rfl, ⟨DA, dA, rfl, oa⟩, ⟨DB, dB, rfl, ob⟩⟩, hk⟩
    have K4 := Lib.hid ((K2.out.trans K3.out).trans hk)
    clear hk oa ob CB
    go_wp2_with fail
    go_ret
    exact ⟨rfl, K4.out.alloc _⟩
  have g2 : decide (n < 0) = false := by simpa using q2
  by_cases q3 : (t.length : Int) ≤ n
  · have EB : Hid (begunB t (freshS t) n = false) := NO.out (by omega)
    have g3 : decide ((t.length : Int) ≤ n) = true := by simpa using q3
    clear q1 q2 q3 NO
    go_upto_region 5 with fail
    go_wp2_with (refine wpList_make_full _ rfl _ _ 28 rfl w2.heap.size 4 i0 (.bool false) 1 Try.underlying28 hi hz0 hz1 _ _ _ _ t.length rfl rfl rfl rfl (by rw [hz2]; omega) (by unfold maxLen; omega) (Nat.le_refl _) ?_; intro w3 hown hg)
    have OB : OwnB w3 w2.heap.size w3.heap.size (.slice (some ⟨w2.heap.size, 0, none⟩) (freshS t).told.length t.length) (freshS t).told := ⟨_, _, rfl, OwnZ.of_row (by have h := hown; simp only [Value.cells, toList_madeCells_one] at h; rw [replicate_flat] at h; simpa [freshS] using h)⟩
    have K3 := Lib.hid (Kept.of_grown (lo := 0) (hi := 0) hg (by intro k hk; cases hk))
    have O3 := Lib.hid (O2.out.kept K3.out (.inl (Nat.le_refl _)))
    have z3 := K3.out.size
    have HS : Hid (RdS w3 w3.heap.size (.agg #[.slice (some ⟨w2.heap.size, 0, none⟩) t.length t.length, .slice none 0 0]) (freshS t)) := by
      have e : (freshS t).told.length = t.length := by simp [freshS]
      rw [e] at OB
      exact ⟨_, _, rfl, OB.rdW (Nat.le_refl _), (OwnI.nil w3 0 0).rdW (Nat.zero_le _)⟩
    have CB := Lib.hid (implBegun t (freshS t) n _ _ w3 (O3.out.rdW (by omega)) HS.out)
    clear hown hg OB
    rw [EB.out] at CB
    go_wp2_with fail
    with_reducible refine CB.out.mono ?_
    rintro e w4 ⟨_, rfl, ⟨_, _, rfl, ⟨DA, dA, rfl, oa⟩, ⟨DB, dB, rfl, ob⟩⟩, hk⟩
    have K4 := Lib.hid ((K2.out.trans K3.out).trans hk)
    clear hk oa ob CB
    go_wp2_with fail
    go_ret
    exact ⟨rfl, K4.out.alloc _⟩
  have g3 : decide ((t.length : Int) ≤ n) = false := by simpa using q3
  have OT := Lib.hid (treeB_true.1 q1)
  have q2' : 0 ≤ n := by omega
  have q3' : n < t.length := by omega
  have EB := Lib.hid (fresh_begun OT.out q2' q3')
  have BO := Lib.hid (begun_ok OT.out q2' q3')
  have AT := Lib.hid (all_told OT.out q2' q3')
  clear q1 q2 q3 q2' q3' NO
  go_upto_region 7 with fail
  go_wp2_with (refine wpList_make_full _ rfl _ _ 28 rfl w2.heap.size 4 i0 (.bool false) 1 Try.underlying28 hi hz0 hz1 _ _ _ _ t.length rfl rfl rfl rfl (by rw [hz2]; omega) (by unfold maxLen; omega) (Nat.le_refl _) ?_; intro w3 hown hg)
  have OB : OwnB w3 w2.heap.size w3.heap.size (.slice (some ⟨w2.heap.size, 0, none⟩) (freshS t).told.length t.length) (freshS t).told := ⟨_, _, rfl, OwnZ.of_row (by have h := hown; simp only [Value.cells, toList_madeCells_one] at h; rw [replicate_flat] at h; simpa [freshS] using h)⟩
  have K3 := Lib.hid (Kept.of_grown (lo := 0) (hi := 0) hg (by intro k hk; cases hk))
  have O3 := Lib.hid (O2.out.kept K3.out (.inl (Nat.le_refl _)))
  have z3 := K3.out.size
  have HS : Hid (RdS w3 w3.heap.size (.agg #[.slice (some ⟨w2.heap.size, 0, none⟩) t.length t.length, .slice none 0 0]) (freshS t)) := by
    have e : (freshS t).told.length = t.length := by simp [freshS]
    rw [e] at OB
    exact ⟨_, _, rfl, OB.rdW (Nat.le_refl _), (OwnI.nil w3 0 0).rdW (Nat.zero_le _)⟩
  have CB := Lib.hid (implBegun t (freshS t) n _ _ w3 (O3.out.rdW (by omega)) HS.out)
  clear hown hg OB
  rw [EB.out.1, EB.out.2] at CB
  go_wp2_with fail
  with_reducible refine CB.out.mono ?_
  rintro e w4 ⟨_, rfl, ⟨_, _, rfl, ⟨DA, dA, rfl, oa⟩, ⟨DB, dB, rfl, ob⟩⟩, hk⟩
  have O4 := Lib.hid (O3.out.kept hk (.inl (Nat.le_refl _)))
  have K4 := Lib.hid ((K2.out.trans K3.out).trans hk)
  have z4 := hk.size
  have S4 : Hid (OwnS w4 w3.heap.size w4.heap.size (.agg #[.slice DA (List.replicate t.length false).length dA, .slice DB [n].length dB]) ⟨List.replicate t.length false, [n]⟩) := ⟨_, _, rfl, ⟨DA, dA, rfl, oa⟩, ⟨DB, dB, rfl, ob⟩⟩
  clear hk oa ob CB O3 K2 K3 O2 HS EB hi hz0 hz1 hz2
  rw [show (List.replicate t.length false).length = t.length from List.length_replicate, show [n].length = 1 from rfl] at S4
  obtain ⟨q, hq⟩ : ∃ q : Spr, q = ⟨List.replicate t.length false, [n]⟩ := ⟨_, rfl⟩
  rw [← hq] at S4 AT BO
  clear hq
  obtain ⟨N, hN⟩ : ∃ N, N = allP t q := ⟨_, rfl⟩
  have EN : Hid (allS t q = N) := by show _ = _; rw [hN]; simp [allS, spreadB_true.2 BO.out]
  rw [← hN] at AT
  clear hN
  obtain ⟨r, hr⟩ : ∃ r, r = w4.heap.size := ⟨_, rfl⟩
  obtain ⟨V, hV⟩ : ∃ V, V = w4.alloc (.cells #[.slice DA t.length dA, .slice DB 1 dB] 31) := ⟨_, rfl⟩
  have KV : Hid (Kept 0 0 w4 V) := by show Kept _ _ _ _; rw [hV]; exact Kept.alloc0 _ _
  have BV : Hid (Blk V r 31 #[.slice DA t.length dA, .slice DB 1 dB]) := by show Blk _ _ _ _; rw [hV, hr]; exact Blk.new _ _ _
  have HV := Lib.hid hV
  have HR := Lib.hid hr
  have S5 := Lib.hid (S4.out.kept KV.out (.inl (Nat.le_refl _)))
  have O5 := Lib.hid (O4.out.kept KV.out (.inl (Nat.le_refl _)))
  have K5 := Lib.hid (K4.out.trans KV.out)
  have z5 := KV.out.size
  have rlo : w4.heap.size ≤ r := by omega
  clear hV hr S4 O4 K4
  go_upto_region 8 with fail
  rw [← HV.out, ← HR.out]
  have b0 := bz0 BV.out
  have b1 := bz1 BV.out
  have CA := Lib.hid (implAll t q _ _ V (O5.out.rdW (by omega)) (S5.out.rdW (by omega)))
  rw [EN.out] at CA
  go_wp2_with fail
  with_reducible refine CA.out.mono ?_
  rintro e w6 ⟨_, rfl, ⟨_, _, rfl, ⟨DC, dC, rfl, oc⟩, ⟨DE, dE, rfl, oe⟩⟩, hk⟩
  have OC := Lib.hid oc
  have OE := Lib.hid oe
  have B6 := Lib.hid (BV.out.kept hk (.inl (Nat.le_refl _)))
  have O6 := Lib.hid (O5.out.kept hk (.inl (Nat.le_refl _)))
  have K6 := Lib.hid (K5.out.trans hk)
  have z6 := hk.size
  have rV := BV.out.lt
  clear hk oc oe CA b0 b1 S5 O5 K5 BV HV HR KV
  have b0 := bz0 B6.out
  have b1 := bz1 B6.out
  have f0 := B6.out.frozen 0
  have f1 := B6.out.frozen 1
  obtain ⟨F, hF⟩ : ∃ F, F = (w6.setCell ⟨r, 0, none⟩ (.slice DC N.told.length dC)).setCell ⟨r, 1, none⟩ (.slice DE N.work.length dE) := ⟨_, rfl⟩
  have kF : Kept r (r + 1) w6 F := by rw [hF]; exact kept_two _ _ _ _
  have BF : Hid (Blk F r 31 #[.slice DC N.told.length dC, .slice DE N.work.length dE]) := by show Blk _ _ _ _; rw [hF]; exact blk_two B6.out _ _
  have OF := Lib.hid (OC.out.kept kF (.inr (.inr (by omega))))
  have TF := Lib.hid (O6.out.kept kF (.inr (.inl (by omega))))
  have KF := Lib.hid (K6.out.trans2 kF (.inr (by have := K6.out.size; omega)))
  have zF := kF.size
  have HF := Lib.hid hF
  have NW : Hid (N.work = []) := AT.out.2.1
  have NT : Hid (N.told.length = t.length) := AT.out.1.told
  have g4 : ((N.told.length : Int) != (t.length : Int)) = false := by rw [NT.out]; simp
  have g5 : ((N.work.length : Int) != 0) = false := by rw [NW.out]; rfl
  clear hF kF OC OE O6 K6 B6
  go_upto_region 9 with fail
  rw [← HF.out]
  clear b0 b1 f0 f1
  have b0 := bz0 BF.out
  have b1 := bz1 BF.out
  go_wp2_with fail
  clear b0 b1
  have z0 : w.heap.size ≤ F.heap.size := by omega
  go_loopw [9] (fun i wr => ∃ k : Nat, k ≤ t.length ∧ i = .int .i64 k ∧ Hid (Kept 0 0 F wr)) (fun i _ => t.length - (intOf i).toNat)
  case atStart => exact ⟨0, Nat.zero_le _, rfl, Lib.hid (Kept.refl _ _ _)⟩
  case round =>
    obtain ⟨k, hk, rfl, HK⟩ := hrel
    by_cases hlt : k < t.length
    · have i1 : (k : Int) < (t.length : Int) := by omega
      have hkN : k < N.told.length := by rw [NT.out]; exact hlt
      have i2 : (k : Int) < (N.told.length : Int) := by omega
      have BR := Lib.hid (BF.out.kept HK.out (.inl (Nat.le_refl _)))
      have OR := Lib.hid (OF.out.kept HK.out (.inl (Nat.le_refl _)))
      have TR := Lib.hid (TF.out.kept HK.out (.inl (Nat.le_refl _)))
      have zr := HK.out.size
      obtain ⟨x, rfl, hx1, hx2, hx3⟩ : ∃ x, DC = some ⟨x, 0, none⟩ ∧ V.heap.size ≤ x ∧ x < w6.heap.size ∧ x < wr.heap.size := by
        rcases OR.out.form with ⟨_, h0, _⟩ | h'
        · exfalso; omega
        · exact h'
      have c0 : wr.cell? ⟨x, k, none⟩ = some (.bool N.told[k]) := by
        have := own_at (R := bR) OR.out.1 hkN 0 (u := .bool N.told[k]) rfl
        rwa [bR_k, Nat.mul_one, Nat.add_zero] at this
      have EB : Hid (decide (n ∈ chainL t k) = N.told[k]) := (AT.out.2.2 k hkN).symm
      obtain ⟨bb, hbb⟩ : ∃ bb, bb = N.told[k] := ⟨_, rfl⟩
      rw [← hbb] at c0 EB
      clear hbb
      have qq : (bb != bb) = false := by simp
      have MS : Hid (∀ X, Kept 0 0 wr X → X.cell? ⟨r, 0, none⟩ = some (.slice (some ⟨x, 0, none⟩) N.told.length dC) ∧ X.cell? ⟨x, k, none⟩ = some (.bool bb)) := fun X hX => ⟨bz0 (BR.out.kept hX (.inl (Nat.le_refl _))), cell_kept hX c0⟩
      have CC := Lib.hid (chain5_any t k _ wr.drew ((TR.out.kept (Kept.refl 0 0 wr).drew (.inl (Nat.le_refl _))).rdW (by show _ ≤ wr.heap.size; omega)))
      have ms0 := MS.out _ (Kept.refl 0 0 wr).drew
      clear c0
      go_upto_region 14 with fail
      go_region_held3 (fun w' => w'.cell? ⟨r, 0, none⟩ = some (.slice (some ⟨x, 0, none⟩) N.told.length dC) ∧ w'.cell? ⟨x, k, none⟩ = some (.bool bb))
        (with_reducible assumption)
        (first | (go_at_call 15; (with_reducible refine CC.out.mono ?_); rintro e w7 ⟨u7, rfl, o7, hk7⟩; have k7 := Lib.hid ((Kept.refl 0 0 wr).drew.trans hk7); have ms7 := MS.out _ k7.out; have CH := Lib.hid (hasL_any (chainL t k) n u7 w7 (o7.rdW (Nat.le_refl _))); rw [EB.out] at CH; clear hk7 o7) | (go_at_call 14; (with_reducible refine CH.out.mono ?_); rintro e w8 ⟨rfl, hk8⟩; have k8 := Lib.hid (k7.out.trans hk8); have ms8 := MS.out _ k8.out; clear hk8))
      have K8 := Lib.hid (HK.out.trans k8.out)
      clear ms0 ms7 ms8 CH k7 k8 CC MS BR OR TR
      go_wp2_with fail
      go_roundw
      case rel => exact ⟨k + 1, by omega, by go_num, K8⟩
      case measure => simp [intOf]; omega
    · go_wp2
      go_ret
      exact ⟨rfl, KF.out.trans HK.out⟩
end Go.Proofs.Ytlfbmjfbebbdlaa
