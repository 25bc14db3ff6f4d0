/- The reference's Taken; no condition. -/
import Derived.Test.YtnnbfcmbcjkpoaaBh
namespace Go.Proofs.Ytnnbfcmbcjkpoaa
open Go.RowKit Go.Sort



theorem block_add (a : Addr) (n : Nat) : (a.add n).block = a.block := by unfold Addr.add; split <;> rfl

set_option maxHeartbeats 1600000 in
theorem takeSpec_bad (ages : List Int) (used : List Bool) (hb : slotsOkB ages used = false) : TakeDoes 60 ages used [] [] 0 0 false := by
  intro A A' c c' B w hB h
  have H := Lib.hid h
  clear h
  go_enter Try.func60, Try.ntmps60
  go_wp2_with fail
  with_reducible refine (okSpec_any _ _ _ _ _ _ B _ (by simp; omega) (by exact H.out.kept hB (((Kept.alloc0 _ _).alloc _).alloc _) (.inl (Nat.le_refl _)))).mono ?_
  rintro e w1 ⟨rfl, hk⟩
  rw [hb]
  have b2 : Blk w1 (w.heap.size + 1) 31 #[.slice none 0 0, .slice none 0 0] := by have := ((Blk.new (w.alloc _) 31 _).alloc _).kept hk (by omega); simpa using this
  have b3 : Blk w1 (w.heap.size + 1 + 1) 40 #[.int .i64 0, .int .i64 0] := by have := ((Blk.new ((w.alloc _).alloc _) 40 _).kept hk (by omega)); simpa using this
  have K1 := Lib.hid ((((Kept.alloc0 _ _).alloc _).alloc _).trans hk)
  have B2 := Lib.hid b2
  have B3 := Lib.hid b3
  clear hk b2 b3
  have c0 := B2.out.cell 0
  have c1 := B2.out.cell 1
  have c2 := B2.out.frozen 0
  have c3 := B2.out.frozen 1
  have c4 := B3.out.cell 0
  have c5 := B3.out.cell 1
  have c6 := B3.out.frozen 0
  have c7 := B3.out.frozen 1
  go_wp2
  exact bodyPost_ret (v := .tuple #[.agg #[.slice none 0 0, .slice none 0 0], .agg #[.int .i64 0, .int .i64 0], .bool false]) (by simp [results, Try.results60, go_sem, c0, c1, c4, c5]) rfl ⟨none, none, 0, 0, rfl, own_none _ _ _, (((K1.out.setCell (.inl (by simp)) _).setCell (.inl (by simp)) _).setCell (.inl (by simp; omega)) _).setCell (.inl (by simp; omega)) _⟩


set_option maxHeartbeats 1600000 in
theorem takeSpec_no (ages : List Int) (used : List Bool) (hb : slotsOkB ages used = true) (hn : NoneFree ages used ages.length) : TakeDoes 60 ages used ages used 0 0 false := by
  intro A A' c c' B w hB h
  have H := Lib.hid h
  have hl := slotsOk_len hb
  have l1 : 1 ≤ ages.length := hl.1
  have l2 : ages.length ≤ 64 := hl.2.1
  have HL := Lib.hid hl.2.2
  have HN := Lib.hid hn
  have HG := Lib.hid (fun k hk => slotsOk_age hb k hk)
  clear hn
  clear h hl
  go_enter Try.func60, Try.ntmps60
  go_wp2_with fail
  with_reducible refine (okSpec_any _ _ _ _ _ _ B _ (by simp; omega) (by exact H.out.kept hB (((Kept.alloc0 _ _).alloc _).alloc _) (.inl (Nat.le_refl _)))).mono ?_
  rintro e w1 ⟨rfl, hk⟩
  rw [hb]
  have x1 : Blk w1 w.heap.size 31 #[.slice A ages.length c, .slice A' used.length c'] := (((Blk.new _ _ _).alloc _).alloc _).kept hk (by omega)
  have x2 : Blk w1 (w.heap.size + 1) 31 #[.slice none 0 0, .slice none 0 0] := by have := ((Blk.new (w.alloc _) 31 _).alloc _).kept hk (by omega); simpa using this
  have x3 : Blk w1 (w.heap.size + 1 + 1) 40 #[.int .i64 0, .int .i64 0] := by have := ((Blk.new ((w.alloc _).alloc _) 40 _).kept hk (by omega)); simpa using this
  have K1 := Lib.hid ((((Kept.alloc0 _ _).alloc _).alloc _).trans hk)
  have R1 := Lib.hid (H.out.kept hB K1.out (.inl (Nat.le_refl _)))
  have hB1 : B ≤ w1.heap.size := by have := K1.out.size; omega
  have B1 := Lib.hid x1
  have B2 := Lib.hid x2
  have B3 := Lib.hid x3
  have z1 := x3.lt
  clear hk x1 x2 x3 H
  have c0 := B1.out.cell 0
  have c1 := B1.out.cell 1
  go_wp2_with fail
  clear c0 c1
  with_reducible refine (copySpec_any _ _ _ _ _ _ B _ hB1 (by exact R1.out) (by omega) (by omega) HL.out).mono ?_
  rintro e w2 ⟨D, D', d, d', rfl, ho, hk⟩
  have z2 := hk.size
  have n1 : w.heap.size < w2.heap.size := by omega
  go_wp2_with fail
  obtain ⟨V, hV⟩ : ∃ V, V = w2.alloc (.cells #[.slice D ages.length d, .slice D' used.length d'] 31) := ⟨_, rfl⟩
  have kV : Kept 0 0 w2 V := by rw [hV]; exact Kept.alloc0 _ _
  have X2 : Hid (Blk V w2.heap.size 31 #[.slice D ages.length d, .slice D' used.length d']) := by show Blk _ _ _ _; rw [hV]; exact Blk.new _ _ _
  rw [← hV]
  clear hV
  have zV : w2.heap.size < V.heap.size := X2.out.lt
  have kk := hk.trans kV
  have K2 := Lib.hid (K1.out.trans kk)
  have R2 := Lib.hid (R1.out.kept hB1 kk (.inl (Nat.le_refl _)))
  have B12 := Lib.hid (B1.out.kept kk (by omega))
  have B22 := Lib.hid (B2.out.kept kk (by omega))
  have B32 := Lib.hid (B3.out.kept kk (by omega))
  have O2 := Lib.hid (ho.kept kV (.inl (Nat.le_refl _)))
  clear hk ho kk kV K1 R1 B1 B2 B3
  have c0 : V.cell? ⟨w.heap.size, 0, none⟩ = some (.slice A ages.length c) := B12.out.cell 0
  have c1 : V.cell? ⟨w.heap.size, 1, none⟩ = some (.slice A' used.length c') := B12.out.cell 1
  go_wp2
  go_loop [6] (fun i => ∃ k : Nat, k ≤ ages.length ∧ i = .int .i64 k) (fun i => ages.length - (intOf i).toNat)
  case atStart => exact ⟨0, Nat.zero_le _, rfl⟩
  case round =>
    obtain ⟨j, hj, rfl⟩ := hrel
    by_cases hlt : j < ages.length
    · have hj1 : j < ages.length := by omega
      have hj2 : j < used.length := by have := HL.out; omega
      obtain ⟨ad, rfl, _, hc⟩ := R2.out.i.at_ hj1
      obtain ⟨ad', rfl, _, hc'⟩ := R2.out.b.at_ hj2
      have i1 : (j : Int) < (ages.length : Int) := by omega
      have i2 : (j : Int) < (used.length : Int) := by omega
      have FB := Lib.hid ((freeB_at (ages := ages) (used := used) hj1 hj2).symm.trans (HN.out j hlt))
      have hg := HG.out j hj1
      generalize used[j] = u at hc' FB
      cases u
      · have ha : ¬ ages[j] < 1000000 := by
          have := FB.out
          simp at this
          omega
        have ha' : decide (ages[j] < 1000000) = false := by simpa using ha
        clear ha hg FB
        go_wp2
        go_round
        case rel => exact ⟨j + 1, by omega, by go_num⟩
        case measure => simp [intOf]; omega
      · clear hg FB
        go_wp2
        go_round
        case rel => exact ⟨j + 1, by omega, by go_num⟩
        case measure => simp [intOf]; omega
    · have c2 := X2.out.cell 0
      have c3 := X2.out.cell 1
      have c4 := B22.out.cell 0
      have c5 := B22.out.cell 1
      have c6 := B22.out.frozen 0
      have c7 := B22.out.frozen 1
      have c8 := B32.out.cell 0
      have c9 := B32.out.cell 1
      have c10 := B32.out.frozen 0
      have c11 := B32.out.frozen 1
      go_wp2
      refine bodyPost_ret (v := .tuple #[.agg #[.slice D ages.length d, .slice D' used.length d'], .agg #[.int .i64 0, .int .i64 0], .bool false]) (by simp [results, Try.results60, go_sem, c4, c5, c8, c9]) rfl ⟨D, D', d, d', rfl, ⟨?_, ?_⟩, ?_⟩
      · exact ((((O2.out.i.far (.inl (by first | omega | (simp; done) | (simp; omega))) _).far (.inl (by first | omega | (simp; done) | (simp; omega))) _).far (.inl (by first | omega | (simp; done) | (simp; omega))) _).far (.inl (by first | omega | (simp; done) | (simp; omega))) _).wide (by omega) (by first | omega | (simp; done) | (simp; omega))
      · exact ((((O2.out.b.far (.inl (by first | omega | (simp; done) | (simp; omega))) _).far (.inl (by first | omega | (simp; done) | (simp; omega))) _).far (.inl (by first | omega | (simp; done) | (simp; omega))) _).far (.inl (by first | omega | (simp; done) | (simp; omega))) _).wide (by omega) (by first | omega | (simp; done) | (simp; omega))
      · exact (((K2.out.setCell (.inl (by first | omega | (simp; done) | (simp; omega))) _).setCell (.inl (by first | omega | (simp; done) | (simp; omega))) _).setCell (.inl (by first | omega | (simp; done) | (simp; omega))) _).setCell (.inl (by first | omega | (simp; done) | (simp; omega))) _

set_option maxHeartbeats 1600000 in
theorem takeSpec_yes (ages : List Int) (used : List Bool) (k : Nat) (used' : List Bool) (hb : slotsOkB ages used = true) (hk1 : k < ages.length) (hk2 : k < used.length) (hf : freeB ages used k = true) (hn : NoneFree ages used k) (eu : used' = used.set k true) : TakeDoes 60 ages used ages used' k ages[k] true := by
  intro A A' c c' B w hB h
  have H := Lib.hid h
  have hl := slotsOk_len hb
  have l1 : 1 ≤ ages.length := hl.1
  have l2 : ages.length ≤ 64 := hl.2.1
  have HL := Lib.hid hl.2.2
  have HN := Lib.hid hn
  have HG := Lib.hid (fun k hk => slotsOk_age hb k hk)
  have q2 : used'.length = used.length := by rw [eu]; simp
  rw [q2]
  have Q2 := Lib.hid q2
  have EU := Lib.hid eu
  have HF := Lib.hid ((freeB_at (ages := ages) (used := used) hk1 hk2).symm.trans hf)
  clear hn hf q2 eu
  clear h hl
  go_enter Try.func60, Try.ntmps60
  go_wp2_with fail
  with_reducible refine (okSpec_any _ _ _ _ _ _ B _ (by simp; omega) (by exact H.out.kept hB (((Kept.alloc0 _ _).alloc _).alloc _) (.inl (Nat.le_refl _)))).mono ?_
  rintro e w1 ⟨rfl, hk⟩
  rw [hb]
  have x1 : Blk w1 w.heap.size 31 #[.slice A ages.length c, .slice A' used.length c'] := (((Blk.new _ _ _).alloc _).alloc _).kept hk (by omega)
  have x2 : Blk w1 (w.heap.size + 1) 31 #[.slice none 0 0, .slice none 0 0] := by have := ((Blk.new (w.alloc _) 31 _).alloc _).kept hk (by omega); simpa using this
  have x3 : Blk w1 (w.heap.size + 1 + 1) 40 #[.int .i64 0, .int .i64 0] := by have := ((Blk.new ((w.alloc _).alloc _) 40 _).kept hk (by omega)); simpa using this
  have K1 := Lib.hid ((((Kept.alloc0 _ _).alloc _).alloc _).trans hk)
  have R1 := Lib.hid (H.out.kept hB K1.out (.inl (Nat.le_refl _)))
  have hB1 : B ≤ w1.heap.size := by have := K1.out.size; omega
  have B1 := Lib.hid x1
  have B2 := Lib.hid x2
  have B3 := Lib.hid x3
  have z1 := x3.lt
  clear hk x1 x2 x3 H
  have c0 := B1.out.cell 0
  have c1 := B1.out.cell 1
  go_wp2_with fail
  clear c0 c1
  with_reducible refine (copySpec_any _ _ _ _ _ _ B _ hB1 (by exact R1.out) (by omega) (by omega) HL.out).mono ?_
  rintro e w2 ⟨D, D', d, d', rfl, ho, hk⟩
  have z2 := hk.size
  have n1 : w.heap.size < w2.heap.size := by omega
  go_wp2_with fail
  obtain ⟨V, hV⟩ : ∃ V, V = w2.alloc (.cells #[.slice D ages.length d, .slice D' used.length d'] 31) := ⟨_, rfl⟩
  have kV : Kept 0 0 w2 V := by rw [hV]; exact Kept.alloc0 _ _
  have X2 : Hid (Blk V w2.heap.size 31 #[.slice D ages.length d, .slice D' used.length d']) := by show Blk _ _ _ _; rw [hV]; exact Blk.new _ _ _
  rw [← hV]
  clear hV
  have zV : w2.heap.size < V.heap.size := X2.out.lt
  have kk := hk.trans kV
  have K2 := Lib.hid (K1.out.trans kk)
  have R2 := Lib.hid (R1.out.kept hB1 kk (.inl (Nat.le_refl _)))
  have B12 := Lib.hid (B1.out.kept kk (by omega))
  have B22 := Lib.hid (B2.out.kept kk (by omega))
  have B32 := Lib.hid (B3.out.kept kk (by omega))
  have O2 := Lib.hid (ho.kept kV (.inl (Nat.le_refl _)))
  clear hk ho kk kV K1 R1 B1 B2 B3
  have c0 : V.cell? ⟨w.heap.size, 0, none⟩ = some (.slice A ages.length c) := B12.out.cell 0
  have c1 : V.cell? ⟨w.heap.size, 1, none⟩ = some (.slice A' used.length c') := B12.out.cell 1
  go_wp2
  go_loop [6] (fun i => ∃ q : Nat, q ≤ k ∧ i = .int .i64 q) (fun i => ages.length - (intOf i).toNat)
  case atStart => exact ⟨0, Nat.zero_le _, rfl⟩
  case round =>
    obtain ⟨j, hj, rfl⟩ := hrel
    by_cases hlt : j < k
    · have hj1 : j < ages.length := by omega
      have hj2 : j < used.length := by have := HL.out; omega
      obtain ⟨ad, rfl, _, hc⟩ := R2.out.i.at_ hj1
      obtain ⟨ad', rfl, _, hc'⟩ := R2.out.b.at_ hj2
      have i1 : (j : Int) < (ages.length : Int) := by omega
      have i2 : (j : Int) < (used.length : Int) := by omega
      have FB := Lib.hid ((freeB_at (ages := ages) (used := used) hj1 hj2).symm.trans (HN.out j hlt))
      have hg := HG.out j hj1
      generalize used[j] = u at hc' FB
      cases u
      · have ha : ¬ ages[j] < 1000000 := by
          have := FB.out
          simp at this
          omega
        have ha' : decide (ages[j] < 1000000) = false := by simpa using ha
        clear ha hg FB
        go_wp2
        go_round
        case rel => exact ⟨j + 1, by omega, by go_num⟩
        case measure => simp [intOf]; omega
      · clear hg FB
        go_wp2
        go_round
        case rel => exact ⟨j + 1, by omega, by go_num⟩
        case measure => simp [intOf]; omega
    · obtain rfl : j = k := by omega
      obtain ⟨ad, rfl, _, hc⟩ := R2.out.i.at_ hk1
      obtain ⟨ad', rfl, _, hc'⟩ := R2.out.b.at_ hk2
      have i1 : (j : Int) < (ages.length : Int) := by omega
      have i2 : (j : Int) < (used.length : Int) := by omega
      have hg := HG.out j hk1
      have ha : ages[j] < 1000000 := by
        have := HF.out
        simp at this
        omega
      have ha' : decide (ages[j] < 1000000) = true := by simpa using ha
      have hu : used[j] = false := by
        have := HF.out
        simp at this
        exact this.1
      rw [hu] at hc'
      rcases O2.out.i.form with ⟨_, hz, _⟩ | ⟨g, rfl, gl, gh, _⟩
      · omega
      rcases O2.out.b.form with ⟨_, hz, _⟩ | ⟨g', rfl, gl', gh', _⟩
      · omega
      have gne : g ≠ g' := Own.ne O2.out.i O2.out.b (by decide)
      have e2 : V.cell? ⟨g', j, none⟩ = some (.bool false) := cell_own O2.out.b.1 hk2 (u := .bool false) (by rw [List.getElem?_map, List.getElem?_eq_getElem hk2, hu]; rfl)
      have f2 : V.frozen? ⟨g', j, none⟩ = false := O2.out.b.1.frozenAt j
      have m2 : g' ≠ w2.heap.size := by omega
      have m3 : g' ≠ w.heap.size := by omega
      have m4 : g' ≠ w.heap.size + 1 := by omega
      have m6 : g' ≠ w.heap.size + 1 + 1 := by omega
      have n7 : w.heap.size + 1 ≠ w2.heap.size := by omega
      have n8 : w.heap.size + 1 + 1 ≠ w2.heap.size := by omega
      clear hu ha hg
      have c2 := X2.out.cell 0
      have c3 := X2.out.cell 1
      go_wp2
      clear c0 c1 c2 c3 hc hc'
      obtain ⟨U, hU⟩ : ∃ U, U = V.setCell ⟨g', j, none⟩ (.bool true) := ⟨_, rfl⟩
      have kU : Kept g' (g' + 1) V U := by rw [hU]; exact (Kept.refl g' (g' + 1) V).setCell (p := ⟨g', j, none⟩) (.inr ⟨Nat.le_refl _, Nat.lt_succ_self _⟩) _
      have zU : V.heap.size ≤ U.heap.size := kU.size
      have OI : Hid (Own U w1.heap.size w2.heap.size 2 (some ⟨g, 0, none⟩) ages.length d (ages.map (Value.int .i64))) := by show Own _ _ _ _ _ _ _ _; rw [hU]; exact O2.out.i.farB gne _
      have OB : Hid (Own U w1.heap.size w2.heap.size 4 (some ⟨g', 0, none⟩) used.length d' ((used.map Value.bool).set j (.bool true))) := by show Own _ _ _ _ _ _ _ _; rw [hU]; exact O2.out.b.set_ j _
      rw [← hU]
      clear hU
      have X3 := Lib.hid (X2.out.kept kU (by omega))
      have B13 := Lib.hid (B12.out.kept kU (by omega))
      have B23 := Lib.hid (B22.out.kept kU (by omega))
      have B33 := Lib.hid (B32.out.kept kU (by omega))
      have K3 := Lib.hid (K2.out.trans2 kU (.inr (by omega)))
      have R3 := Lib.hid (R2.out.kept (by omega) kU (.inr (by omega)))
      clear kU X2 B12 B22 B32 K2 R2 O2 e2 f2 m2 m3 m4 m6
      obtain ⟨_, he, hb', hc⟩ := R3.out.i.at_ hk1
      injection he with he
      subst he
      have hab : (ad.add j).block < w1.heap.size := by rw [block_add]; omega
      have c0 : U.cell? ⟨w.heap.size, 0, none⟩ = some (.slice (some ad) ages.length c) := B13.out.cell 0
      have c1 := B13.out.cell 1
      have c2 := X3.out.cell 0
      have c3 := X3.out.cell 1
      have c4 := B23.out.cell 0
      have c5 := B23.out.cell 1
      have c6 := B23.out.frozen 0
      have c7 := B23.out.frozen 1
      have c8 := B33.out.cell 0
      have c9 := B33.out.cell 1
      have c10 := B33.out.frozen 0
      have c11 := B33.out.frozen 1
      have a1 : (⟨w.heap.size + 1, 0, none⟩ : Addr) ≠ ad.add j := fun e => by have := congrArg Addr.block e; rw [block_add] at this; simp at this; omega
      have a2 : (⟨w.heap.size + 1, 1, none⟩ : Addr) ≠ ad.add j := fun e => by have := congrArg Addr.block e; rw [block_add] at this; simp at this; omega
      go_region
      go_wp2
      refine bodyPost_ret (v := .tuple #[.agg #[.slice (some ⟨g, 0, none⟩) ages.length d, .slice (some ⟨g', 0, none⟩) used.length d'], .agg #[.int .i64 j, .int .i64 ages[j]], .bool true]) (by simp [results, Try.results60, go_sem, c4, c5, c8, c9]) rfl ⟨some ⟨g, 0, none⟩, some ⟨g', 0, none⟩, d, d', rfl, ⟨?_, ?_⟩, ?_⟩
      · exact ((((OI.out.far (.inl (by first | omega | (simp; done) | (simp; omega))) _).far (.inl (by first | omega | (simp; done) | (simp; omega))) _).far (.inl (by first | omega | (simp; done) | (simp; omega))) _).far (.inl (by first | omega | (simp; done) | (simp; omega))) _).wide (by omega) (by first | omega | (simp; done) | (simp; omega))
      · rw [Q2.out, EU.out, List.map_set]
        exact ((((OB.out.far (.inl (by first | omega | (simp; done) | (simp; omega))) _).far (.inl (by first | omega | (simp; done) | (simp; omega))) _).far (.inl (by first | omega | (simp; done) | (simp; omega))) _).far (.inl (by first | omega | (simp; done) | (simp; omega))) _).wide (by omega) (by first | omega | (simp; done) | (simp; omega))
      · exact ((((K3.out.setCell (.inl (by first | omega | (simp; done) | (simp; omega))) _).setCell (.inl (by first | omega | (simp; done) | (simp; omega))) _).setCell (.inl (by first | omega | (simp; done) | (simp; omega))) _).setCell (.inl (by first | omega | (simp; done) | (simp; omega))) _).drew
end Go.Proofs.Ytnnbfcmbcjkpoaa
