/- Both Dropped functions, the program's and the reference's; no condition. -/
import Derived.Test.YtnnbfcmbcjkpoaaBc
import Derived.Test.YtnnbfcmbcjkpoaaBd
namespace Go.Proofs.Ytnnbfcmbcjkpoaa
open Go.RowKit Go.Sort



/-- What a Dropped function does: the lists and the bool that it returns. -/
def DropDoes (f : Nat) (ages : List Int) (used : List Bool) (s a : Int) (ages' : List Int) (used' : List Bool) (b : Bool) : Prop :=
  ∀ (A A' : Option Addr) (c c' B : Nat) (w : World), B ≤ w.heap.size → RdL w B A A' ages used →
    Calls Try.prog f #[.agg #[.slice A ages.length c, .slice A' used.length c'], .agg #[.int .i64 s, .int .i64 a]] w fun e w' => ∃ (D D' : Option Addr) (d d' : Nat),
      e = .returned (.tuple #[.agg #[.slice D ages'.length d, .slice D' used'.length d'], .bool b]) ∧ OwnL w' w.heap.size w'.heap.size D d D' d' ages' used' ∧ Kept 0 0 w w'

theorem own_none (w : World) (lo hi : Nat) : OwnL w lo hi none 0 none 0 [] [] :=
  ⟨⟨World.ownsRow_nil _ _ _ _, fun _ h => by cases h⟩, ⟨World.ownsRow_nil _ _ _ _, fun _ h => by cases h⟩⟩

set_option maxHeartbeats 1600000 in
theorem dropImpl_bad (ages : List Int) (used : List Bool) (s a : Int) (hb : slotsOkB ages used = false) : DropDoes 64 ages used s a [] [] false := by
  intro A A' c c' B w hB h
  have H := Lib.hid h
  clear h
  go_enter Try.func64, Try.ntmps64
  go_wp2_with fail
  with_reducible refine (okImpl_any _ _ _ _ _ _ B _ (by simp; omega) (by exact H.out.kept hB (((Kept.alloc0 _ _).alloc _).alloc _) (.inl (Nat.le_refl _)))).mono ?_
  rintro e w1 ⟨rfl, hk⟩
  rw [hb]
  have b3 : Blk w1 (w.heap.size + 1 + 1) 31 #[.slice none 0 0, .slice none 0 0] := by have := ((Blk.new ((w.alloc _).alloc _) 31 _).kept hk (by omega)); simpa using this
  have K1 := Lib.hid ((((Kept.alloc0 _ _).alloc _).alloc _).trans hk)
  have B3 := Lib.hid b3
  clear hk b3
  have c4 := B3.out.cell 0
  have c5 := B3.out.cell 1
  have c6 := B3.out.frozen 0
  have c7 := B3.out.frozen 1
  go_wp2
  exact bodyPost_ret (v := .tuple #[.agg #[.slice none 0 0, .slice none 0 0], .bool false]) (by simp [results, Try.results64, go_sem, c4, c5]) rfl ⟨none, none, 0, 0, rfl, own_none _ _ _, (K1.out.setCell (.inl (by simp; omega)) _).setCell (.inl (by simp; omega)) _⟩

set_option maxHeartbeats 1600000 in
theorem dropImpl_no (ages : List Int) (used : List Bool) (s a : Int) (hb : slotsOkB ages used = true) (hd : holdsB ages used s a = false ∨ a = 1000000) : DropDoes 64 ages used s a ages used false := by
  intro A A' c c' B w hB h
  have H := Lib.hid h
  have hl := slotsOk_len hb
  have l1 : 1 ≤ ages.length := hl.1
  have l2 : ages.length ≤ 64 := hl.2.1
  have HL := Lib.hid hl.2.2
  clear h hl
  go_enter Try.func64, Try.ntmps64
  go_wp2_with fail
  with_reducible refine (okImpl_any _ _ _ _ _ _ B _ (by simp; omega) (by exact H.out.kept hB (((Kept.alloc0 _ _).alloc _).alloc _) (.inl (Nat.le_refl _)))).mono ?_
  rintro e w1 ⟨rfl, hk⟩
  rw [hb]
  have b1 : Blk w1 w.heap.size 31 #[.slice A ages.length c, .slice A' used.length c'] := (((Blk.new _ _ _).alloc _).alloc _).kept hk (by omega)
  have b2 : Blk w1 (w.heap.size + 1) 40 #[.int .i64 s, .int .i64 a] := by have := ((Blk.new (w.alloc _) 40 _).alloc _).kept hk (by omega); simpa using this
  have b3 : Blk w1 (w.heap.size + 1 + 1) 31 #[.slice none 0 0, .slice none 0 0] := by have := ((Blk.new ((w.alloc _).alloc _) 31 _).kept hk (by omega)); simpa using this
  have K1 := Lib.hid ((((Kept.alloc0 _ _).alloc _).alloc _).trans hk)
  have R1 := Lib.hid (H.out.kept hB K1.out (.inl (Nat.le_refl _)))
  have hB1 : B ≤ w1.heap.size := by have := K1.out.size; omega
  have B1 := Lib.hid b1
  have B2 := Lib.hid b2
  have B3 := Lib.hid b3
  clear hk b1 b2 b3 H
  have c0 := B1.out.cell 0
  have c1 := B1.out.cell 1
  go_wp2_with fail
  clear c0 c1
  with_reducible refine (copyImpl_any _ _ _ _ _ _ B _ hB1 (by exact R1.out) (by omega) (by omega) HL.out).mono ?_
  rintro e w2 ⟨D, D', d, d', rfl, ho, hk⟩
  have z2 := hk.size
  have z1 := B3.out.lt
  have n1 : w.heap.size < w2.heap.size := by omega
  have n2 : w.heap.size + 1 < w2.heap.size := by omega
  have K2 := Lib.hid (K1.out.trans hk)
  have R2 := Lib.hid (R1.out.kept hB1 (hk.trans (Kept.alloc0 _ (.cells #[.slice D ages.length d, .slice D' used.length d'] 31))) (.inl (Nat.le_refl _)))
  have B12 := Lib.hid (B1.out.kept hk (by omega))
  have B22 := Lib.hid (B2.out.kept hk (by omega))
  have B32 := Lib.hid (B3.out.kept hk (by omega))
  have O2 := Lib.hid ho
  clear hk ho K1 R1 B1 B2 B3
  have c0 := B12.out.cell 0
  have c1 := B12.out.cell 1
  have c2 := B22.out.cell 0
  have c3 := B22.out.cell 1
  go_wp2_with fail
  clear c0 c1 c2 c3
  with_reducible refine (holdsImpl_any _ _ _ _ _ _ _ _ B _ (by simp; omega) (by exact R2.out)).mono ?_
  rintro e w3 ⟨rfl, hk⟩
  have z3 : w2.heap.size < w3.heap.size := by have := hk.size; simp at this; omega
  have K3 := Lib.hid (K2.out.trans ((Kept.alloc0 _ _).trans hk))
  have B23 := Lib.hid ((B22.out.alloc _).kept hk (by omega))
  have B33 := Lib.hid ((B32.out.alloc _).kept hk (by omega))
  have X3 := Lib.hid ((Blk.new _ _ _).kept hk (by omega))
  have O3 := Lib.hid ((O2.out.kept (Kept.alloc0 _ _) (by omega)).kept hk (by omega))
  clear hk K2 B12 B22 B32 O2 R2
  have c0 := B23.out.cell 0
  have c1 := B23.out.cell 1
  have c2 := X3.out.cell 0
  have c3 := X3.out.cell 1
  have c4 := B33.out.cell 0
  have c5 := B33.out.cell 1
  have c6 := B33.out.frozen 0
  have c7 := B33.out.frozen 1
  cases hh : holdsB ages used s a
  · go_wp2
    refine bodyPost_ret (v := .tuple #[.agg #[.slice D ages.length d, .slice D' used.length d'], .bool false]) (by simp [results, Try.results64, go_sem, c4, c5]) rfl ⟨D, D', d, d', rfl, ⟨?_, ?_⟩, ?_⟩
    · exact ((O3.out.i.far (.inl (by simp; omega)) _).far (.inl (by simp; omega)) _).wide (by omega) (by simp; omega)
    · exact ((O3.out.b.far (.inl (by simp; omega)) _).far (.inl (by simp; omega)) _).wide (by omega) (by simp; omega)
    · exact (K3.out.setCell (.inl (by simp; omega)) _).setCell (.inl (by simp; omega)) _
  · have ha : a = 1000000 := by
      rcases hd with hd | hd
      · rw [hh] at hd; cases hd
      · exact hd
    have g : (a == 1000000) = true := by simp [ha]
    clear ha hd
    go_wp2
    refine bodyPost_ret (v := .tuple #[.agg #[.slice D ages.length d, .slice D' used.length d'], .bool false]) (by simp [results, Try.results64, go_sem, c4, c5]) rfl ⟨D, D', d, d', rfl, ⟨?_, ?_⟩, ?_⟩
    · exact ((O3.out.i.far (.inl (by simp; omega)) _).far (.inl (by simp; omega)) _).wide (by omega) (by simp; omega)
    · exact ((O3.out.b.far (.inl (by simp; omega)) _).far (.inl (by simp; omega)) _).wide (by omega) (by simp; omega)
    · exact (K3.out.setCell (.inl (by simp; omega)) _).setCell (.inl (by simp; omega)) _

theorem holds_yes {ages : List Int} {used : List Bool} {s a : Int} (h : holdsB ages used s a = true) : slotsOkB ages used = true ∧ ∃ k : Nat, s = k ∧ ∃ (h1 : k < ages.length) (h2 : k < used.length), ages[k] = a ∧ used[k] = true ∧ 0 ≤ a ∧ a ≤ 1000000 := by
  have hb : slotsOkB ages used = true := by
    cases e : slotsOkB ages used
    · rw [holds_bad s a e] at h; cases h
    · rfl
  refine ⟨hb, ?_⟩
  by_cases g : s < 0 ∨ (ages.length : Int) ≤ s
  · rw [holds_out s a g] at h; cases h
  · obtain ⟨k, rfl⟩ := Int.eq_ofNat_of_zero_le (show 0 ≤ s by omega)
    have hl := slotsOk_len hb
    have h1 : k < ages.length := by omega
    have h2 : k < used.length := by omega
    have e := holds_in k a hb h1 h2
    rw [h] at e
    have e' := e.symm
    simp only [Bool.and_eq_true, beq_iff_eq] at e'
    have hr := slotsOk_age hb k h1
    exact ⟨k, rfl, h1, h2, e'.2, e'.1, by omega, by omega⟩

set_option maxHeartbeats 1600000 in
theorem dropImpl_yes (ages : List Int) (used : List Bool) (k : Nat) (a : Int) (ages' : List Int) (used' : List Bool) (hb : slotsOkB ages used = true) (hh : holdsB ages used k a = true) (ha : a ≠ 1000000) (hk1 : k < ages.length) (hk2 : k < used.length) (he : ages[k] = a) (b1 : 0 ≤ a) (b2 : a ≤ 1000000) (ea : ages' = ages.set k (a + 1)) (eu : used' = used.set k false) : DropDoes 64 ages used k a ages' used' true := by
  intro A A' c c' B w hB h
  have H := Lib.hid h
  have q1 : ages'.length = ages.length := by rw [ea]; simp
  have q2 : used'.length = used.length := by rw [eu]; simp
  rw [q1, q2]
  have Q1 := Lib.hid q1
  have Q2 := Lib.hid q2
  have EA := Lib.hid ea
  have EU := Lib.hid eu
  have HE := Lib.hid he
  have gg : (a == 1000000) = false := by simp [ha]
  clear q1 q2 ea eu he ha
  have hl := slotsOk_len hb
  have l1 : 1 ≤ ages.length := hl.1
  have l2 : ages.length ≤ 64 := hl.2.1
  have HL := Lib.hid hl.2.2
  clear h hl
  go_enter Try.func64, Try.ntmps64
  go_wp2_with fail
  with_reducible refine (okImpl_any _ _ _ _ _ _ B _ (by simp; omega) (by exact H.out.kept hB (((Kept.alloc0 _ _).alloc _).alloc _) (.inl (Nat.le_refl _)))).mono ?_
  rintro e w1 ⟨rfl, hk⟩
  rw [hb]
  have x1 : Blk w1 w.heap.size 31 #[.slice A ages.length c, .slice A' used.length c'] := (((Blk.new _ _ _).alloc _).alloc _).kept hk (by omega)
  have x2 : Blk w1 (w.heap.size + 1) 40 #[.int .i64 k, .int .i64 a] := by have := ((Blk.new (w.alloc _) 40 _).alloc _).kept hk (by omega); simpa using this
  have x3 : Blk w1 (w.heap.size + 1 + 1) 31 #[.slice none 0 0, .slice none 0 0] := by have := ((Blk.new ((w.alloc _).alloc _) 31 _).kept hk (by omega)); simpa using this
  have K1 := Lib.hid ((((Kept.alloc0 _ _).alloc _).alloc _).trans hk)
  have R1 := Lib.hid (H.out.kept hB K1.out (.inl (Nat.le_refl _)))
  have hB1 : B ≤ w1.heap.size := by have := K1.out.size; omega
  have B1 := Lib.hid x1
  have B2 := Lib.hid x2
  have B3 := Lib.hid x3
  clear hk x1 x2 x3 H
  have c0 := B1.out.cell 0
  have c1 := B1.out.cell 1
  go_wp2_with fail
  clear c0 c1
  with_reducible refine (copyImpl_any _ _ _ _ _ _ B _ hB1 (by exact R1.out) (by omega) (by omega) HL.out).mono ?_
  rintro e w2 ⟨D, D', d, d', rfl, ho, hk⟩
  have z2 := hk.size
  have z1 := B3.out.lt
  have n1 : w.heap.size < w2.heap.size := by omega
  have n2 : w.heap.size + 1 < w2.heap.size := by omega
  have K2 := Lib.hid (K1.out.trans hk)
  have R2 := Lib.hid (R1.out.kept hB1 (hk.trans (Kept.alloc0 _ (.cells #[.slice D ages.length d, .slice D' used.length d'] 31))) (.inl (Nat.le_refl _)))
  have B12 := Lib.hid (B1.out.kept hk (by omega))
  have B22 := Lib.hid (B2.out.kept hk (by omega))
  have B32 := Lib.hid (B3.out.kept hk (by omega))
  have O2 := Lib.hid ho
  clear hk ho K1 R1 B1 B2 B3
  have c0 := B12.out.cell 0
  have c1 := B12.out.cell 1
  have c2 := B22.out.cell 0
  have c3 := B22.out.cell 1
  go_wp2_with fail
  clear c0 c1 c2 c3
  with_reducible refine (holdsImpl_any _ _ _ _ _ _ _ _ B _ (by simp; omega) (by exact R2.out)).mono ?_
  rintro e w3 ⟨rfl, hk⟩
  have z3 : w2.heap.size < w3.heap.size := by have := hk.size; simp at this; omega
  have K3 := Lib.hid (K2.out.trans ((Kept.alloc0 _ _).trans hk))
  have B23 := Lib.hid ((B22.out.alloc _).kept hk (by omega))
  have B33 := Lib.hid ((B32.out.alloc _).kept hk (by omega))
  have X3 := Lib.hid ((Blk.new _ _ _).kept hk (by omega))
  have O3 := Lib.hid ((O2.out.kept (Kept.alloc0 _ _) (by omega)).kept hk (by omega))
  clear hk K2 B12 B22 B32 O2 R2
  have c0 := B23.out.cell 0
  have c1 := B23.out.cell 1
  have c2 := X3.out.cell 0
  have c3 := X3.out.cell 1
  have c4 := B33.out.cell 0
  have c5 := B33.out.cell 1
  have c6 := B33.out.frozen 0
  have c7 := B33.out.frozen 1
  rw [hh]
  rcases O3.out.i.form with ⟨_, hz, _⟩ | ⟨g, rfl, gl, gh, _⟩
  · omega
  rcases O3.out.b.form with ⟨_, hz, _⟩ | ⟨g', rfl, gl', gh', _⟩
  · omega
  have gne : g ≠ g' := Own.ne O3.out.i O3.out.b (by decide)
  have e1 : w3.cell? ⟨g, k, none⟩ = some (.int .i64 a) := by rw [cell_own O3.out.i.1 hk1 (u := .int .i64 a) (by rw [List.getElem?_map, List.getElem?_eq_getElem hk1, HE.out]; rfl)]
  have e2 : ∃ u, w3.cell? ⟨g', k, none⟩ = some (.bool u) := ⟨_, cell_own O3.out.b.1 hk2 (u := .bool used[k]) (by rw [List.getElem?_map, List.getElem?_eq_getElem hk2]; rfl)⟩
  obtain ⟨u, e2⟩ := e2
  have f1 : w3.frozen? ⟨g, k, none⟩ = false := O3.out.i.1.frozenAt k
  have f2 : w3.frozen? ⟨g', k, none⟩ = false := O3.out.b.1.frozenAt k
  have m1 : g ≠ w2.heap.size := by omega
  have m2 : g' ≠ w2.heap.size := by omega
  have m3 : g ≠ w.heap.size + 1 := by omega
  have m4 : g' ≠ w.heap.size + 1 := by omega
  have m5 : g ≠ w.heap.size + 1 + 1 := by omega
  have m6 : g' ≠ w.heap.size + 1 + 1 := by omega
  have l3 : (k : Int) < (ages.length : Int) := by omega
  have l4 : (k : Int) < (used.length : Int) := by omega
  go_wp2
  refine bodyPost_ret (v := .tuple #[.agg #[.slice (some ⟨g, 0, none⟩) ages.length d, .slice (some ⟨g', 0, none⟩) used.length d'], .bool true]) (by simp [results, Try.results64, go_sem, c4, c5]) rfl ⟨some ⟨g, 0, none⟩, some ⟨g', 0, none⟩, d, d', rfl, ⟨?_, ?_⟩, ?_⟩
  · rw [Q1.out, EA.out, List.map_set]
    exact ((((O3.out.i.farB (p := ⟨g', k, none⟩) gne _).set_ k _).far (.inl (by simp; omega)) _).far (.inl (by simp; omega)) _).wide (by omega) (by simp; omega)
  · rw [Q2.out, EU.out, List.map_set]
    exact ((((O3.out.b.set_ k _).farB (p := ⟨g, k, none⟩) gne.symm _).far (.inl (by simp; omega)) _).far (.inl (by simp; omega)) _).wide (by omega) (by simp; omega)
  · exact (((K3.out.setCell (.inl (by simp; omega)) _).setCell (.inl (by simp; omega)) _).setCell (.inl (by simp; omega)) _).setCell (.inl (by simp; omega)) _


set_option maxHeartbeats 1600000 in
theorem dropSpec_bad (ages : List Int) (used : List Bool) (s a : Int) (hb : slotsOkB ages used = false) : DropDoes 82 ages used s a [] [] false := by
  intro A A' c c' B w hB h
  have H := Lib.hid h
  clear h
  go_enter Try.func82, Try.ntmps82
  go_wp2_with fail
  with_reducible refine (okSpec_any _ _ _ _ _ _ B _ (by simp; omega) (by exact H.out.kept hB (((Kept.alloc0 _ _).alloc _).alloc _) (.inl (Nat.le_refl _)))).mono ?_
  rintro e w1 ⟨rfl, hk⟩
  rw [hb]
  have b3 : Blk w1 (w.heap.size + 1 + 1) 31 #[.slice none 0 0, .slice none 0 0] := by have := ((Blk.new ((w.alloc _).alloc _) 31 _).kept hk (by omega)); simpa using this
  have K1 := Lib.hid ((((Kept.alloc0 _ _).alloc _).alloc _).trans hk)
  have B3 := Lib.hid b3
  clear hk b3
  have c4 := B3.out.cell 0
  have c5 := B3.out.cell 1
  have c6 := B3.out.frozen 0
  have c7 := B3.out.frozen 1
  go_wp2
  exact bodyPost_ret (v := .tuple #[.agg #[.slice none 0 0, .slice none 0 0], .bool false]) (by simp [results, Try.results82, go_sem, c4, c5]) rfl ⟨none, none, 0, 0, rfl, own_none _ _ _, (K1.out.setCell (.inl (by simp; omega)) _).setCell (.inl (by simp; omega)) _⟩

set_option maxHeartbeats 1600000 in
theorem dropSpec_no (ages : List Int) (used : List Bool) (s a : Int) (hb : slotsOkB ages used = true) (hd : holdsB ages used s a = false ∨ a = 1000000) : DropDoes 82 ages used s a ages used false := by
  intro A A' c c' B w hB h
  have H := Lib.hid h
  have hl := slotsOk_len hb
  have l1 : 1 ≤ ages.length := hl.1
  have l2 : ages.length ≤ 64 := hl.2.1
  have HL := Lib.hid hl.2.2
  clear h hl
  go_enter Try.func82, Try.ntmps82
  go_wp2_with fail
  with_reducible refine (okSpec_any _ _ _ _ _ _ B _ (by simp; omega) (by exact H.out.kept hB (((Kept.alloc0 _ _).alloc _).alloc _) (.inl (Nat.le_refl _)))).mono ?_
  rintro e w1 ⟨rfl, hk⟩
  rw [hb]
  have b1 : Blk w1 w.heap.size 31 #[.slice A ages.length c, .slice A' used.length c'] := (((Blk.new _ _ _).alloc _).alloc _).kept hk (by omega)
  have b2 : Blk w1 (w.heap.size + 1) 40 #[.int .i64 s, .int .i64 a] := by have := ((Blk.new (w.alloc _) 40 _).alloc _).kept hk (by omega); simpa using this
  have b3 : Blk w1 (w.heap.size + 1 + 1) 31 #[.slice none 0 0, .slice none 0 0] := by have := ((Blk.new ((w.alloc _).alloc _) 31 _).kept hk (by omega)); simpa using this
  have K1 := Lib.hid ((((Kept.alloc0 _ _).alloc _).alloc _).trans hk)
  have R1 := Lib.hid (H.out.kept hB K1.out (.inl (Nat.le_refl _)))
  have hB1 : B ≤ w1.heap.size := by have := K1.out.size; omega
  have B1 := Lib.hid b1
  have B2 := Lib.hid b2
  have B3 := Lib.hid b3
  clear hk b1 b2 b3 H
  have c0 := B1.out.cell 0
  have c1 := B1.out.cell 1
  go_wp2_with fail
  clear c0 c1
  with_reducible refine (copySpec_any _ _ _ _ _ _ B _ hB1 (by exact R1.out) (by omega) (by omega) HL.out).mono ?_
  rintro e w2 ⟨D, D', d, d', rfl, ho, hk⟩
  have z2 := hk.size
  have z1 := B3.out.lt
  have n1 : w.heap.size < w2.heap.size := by omega
  have n2 : w.heap.size + 1 < w2.heap.size := by omega
  have K2 := Lib.hid (K1.out.trans hk)
  have R2 := Lib.hid (R1.out.kept hB1 (hk.trans (Kept.alloc0 _ (.cells #[.slice D ages.length d, .slice D' used.length d'] 31))) (.inl (Nat.le_refl _)))
  have B12 := Lib.hid (B1.out.kept hk (by omega))
  have B22 := Lib.hid (B2.out.kept hk (by omega))
  have B32 := Lib.hid (B3.out.kept hk (by omega))
  have O2 := Lib.hid ho
  clear hk ho K1 R1 B1 B2 B3
  have c0 := B12.out.cell 0
  have c1 := B12.out.cell 1
  have c2 := B22.out.cell 0
  have c3 := B22.out.cell 1
  go_wp2_with fail
  clear c0 c1 c2 c3
  with_reducible refine (holdsSpec_any _ _ _ _ _ _ _ _ B _ (by simp; omega) (by exact R2.out)).mono ?_
  rintro e w3 ⟨rfl, hk⟩
  have z3 : w2.heap.size < w3.heap.size := by have := hk.size; simp at this; omega
  have K3 := Lib.hid (K2.out.trans ((Kept.alloc0 _ _).trans hk))
  have B23 := Lib.hid ((B22.out.alloc _).kept hk (by omega))
  have B33 := Lib.hid ((B32.out.alloc _).kept hk (by omega))
  have X3 := Lib.hid ((Blk.new _ _ _).kept hk (by omega))
  have O3 := Lib.hid ((O2.out.kept (Kept.alloc0 _ _) (by omega)).kept hk (by omega))
  clear hk K2 B12 B22 B32 O2 R2
  have c0 := B23.out.cell 0
  have c1 := B23.out.cell 1
  have c2 := X3.out.cell 0
  have c3 := X3.out.cell 1
  have c4 := B33.out.cell 0
  have c5 := B33.out.cell 1
  have c6 := B33.out.frozen 0
  have c7 := B33.out.frozen 1
  cases hh : holdsB ages used s a
  · go_wp2
    refine bodyPost_ret (v := .tuple #[.agg #[.slice D ages.length d, .slice D' used.length d'], .bool false]) (by simp [results, Try.results82, go_sem, c4, c5]) rfl ⟨D, D', d, d', rfl, ⟨?_, ?_⟩, ?_⟩
    · exact ((O3.out.i.far (.inl (by simp; omega)) _).far (.inl (by simp; omega)) _).wide (by omega) (by simp; omega)
    · exact ((O3.out.b.far (.inl (by simp; omega)) _).far (.inl (by simp; omega)) _).wide (by omega) (by simp; omega)
    · exact (K3.out.setCell (.inl (by simp; omega)) _).setCell (.inl (by simp; omega)) _
  · have ha : a = 1000000 := by
      rcases hd with hd | hd
      · rw [hh] at hd; cases hd
      · exact hd
    have g : (a == 1000000) = true := by simp [ha]
    clear ha hd
    go_wp2
    refine bodyPost_ret (v := .tuple #[.agg #[.slice D ages.length d, .slice D' used.length d'], .bool false]) (by simp [results, Try.results82, go_sem, c4, c5]) rfl ⟨D, D', d, d', rfl, ⟨?_, ?_⟩, ?_⟩
    · exact ((O3.out.i.far (.inl (by simp; omega)) _).far (.inl (by simp; omega)) _).wide (by omega) (by simp; omega)
    · exact ((O3.out.b.far (.inl (by simp; omega)) _).far (.inl (by simp; omega)) _).wide (by omega) (by simp; omega)
    · exact (K3.out.setCell (.inl (by simp; omega)) _).setCell (.inl (by simp; omega)) _

set_option maxHeartbeats 1600000 in
theorem dropSpec_yes (ages : List Int) (used : List Bool) (k : Nat) (a : Int) (ages' : List Int) (used' : List Bool) (hb : slotsOkB ages used = true) (hh : holdsB ages used k a = true) (ha : a ≠ 1000000) (hk1 : k < ages.length) (hk2 : k < used.length) (he : ages[k] = a) (b1 : 0 ≤ a) (b2 : a ≤ 1000000) (ea : ages' = ages.set k (a + 1)) (eu : used' = used.set k false) : DropDoes 82 ages used k a ages' used' true := by
  intro A A' c c' B w hB h
  have H := Lib.hid h
  have q1 : ages'.length = ages.length := by rw [ea]; simp
  have q2 : used'.length = used.length := by rw [eu]; simp
  rw [q1, q2]
  have Q1 := Lib.hid q1
  have Q2 := Lib.hid q2
  have EA := Lib.hid ea
  have EU := Lib.hid eu
  have HE := Lib.hid he
  have gg : (a == 1000000) = false := by simp [ha]
  clear q1 q2 ea eu he ha
  have hl := slotsOk_len hb
  have l1 : 1 ≤ ages.length := hl.1
  have l2 : ages.length ≤ 64 := hl.2.1
  have HL := Lib.hid hl.2.2
  clear h hl
  go_enter Try.func82, Try.ntmps82
  go_wp2_with fail
  with_reducible refine (okSpec_any _ _ _ _ _ _ B _ (by simp; omega) (by exact H.out.kept hB (((Kept.alloc0 _ _).alloc _).alloc _) (.inl (Nat.le_refl _)))).mono ?_
  rintro e w1 ⟨rfl, hk⟩
  rw [hb]
  have x1 : Blk w1 w.heap.size 31 #[.slice A ages.length c, .slice A' used.length c'] := (((Blk.new _ _ _).alloc _).alloc _).kept hk (by omega)
  have x2 : Blk w1 (w.heap.size + 1) 40 #[.int .i64 k, .int .i64 a] := by have := ((Blk.new (w.alloc _) 40 _).alloc _).kept hk (by omega); simpa using this
  have x3 : Blk w1 (w.heap.size + 1 + 1) 31 #[.slice none 0 0, .slice none 0 0] := by have := ((Blk.new ((w.alloc _).alloc _) 31 _).kept hk (by omega)); simpa using this
  have K1 := Lib.hid ((((Kept.alloc0 _ _).alloc _).alloc _).trans hk)
  have R1 := Lib.hid (H.out.kept hB K1.out (.inl (Nat.le_refl _)))
  have hB1 : B ≤ w1.heap.size := by have := K1.out.size; omega
  have B1 := Lib.hid x1
  have B2 := Lib.hid x2
  have B3 := Lib.hid x3
  clear hk x1 x2 x3 H
  have c0 := B1.out.cell 0
  have c1 := B1.out.cell 1
  go_wp2_with fail
  clear c0 c1
  with_reducible refine (copySpec_any _ _ _ _ _ _ B _ hB1 (by exact R1.out) (by omega) (by omega) HL.out).mono ?_
  rintro e w2 ⟨D, D', d, d', rfl, ho, hk⟩
  have z2 := hk.size
  have z1 := B3.out.lt
  have n1 : w.heap.size < w2.heap.size := by omega
  have n2 : w.heap.size + 1 < w2.heap.size := by omega
  have K2 := Lib.hid (K1.out.trans hk)
  have R2 := Lib.hid (R1.out.kept hB1 (hk.trans (Kept.alloc0 _ (.cells #[.slice D ages.length d, .slice D' used.length d'] 31))) (.inl (Nat.le_refl _)))
  have B12 := Lib.hid (B1.out.kept hk (by omega))
  have B22 := Lib.hid (B2.out.kept hk (by omega))
  have B32 := Lib.hid (B3.out.kept hk (by omega))
  have O2 := Lib.hid ho
  clear hk ho K1 R1 B1 B2 B3
  have c0 := B12.out.cell 0
  have c1 := B12.out.cell 1
  have c2 := B22.out.cell 0
  have c3 := B22.out.cell 1
  go_wp2_with fail
  clear c0 c1 c2 c3
  with_reducible refine (holdsSpec_any _ _ _ _ _ _ _ _ B _ (by simp; omega) (by exact R2.out)).mono ?_
  rintro e w3 ⟨rfl, hk⟩
  have z3 : w2.heap.size < w3.heap.size := by have := hk.size; simp at this; omega
  have K3 := Lib.hid (K2.out.trans ((Kept.alloc0 _ _).trans hk))
  have B23 := Lib.hid ((B22.out.alloc _).kept hk (by omega))
  have B33 := Lib.hid ((B32.out.alloc _).kept hk (by omega))
  have X3 := Lib.hid ((Blk.new _ _ _).kept hk (by omega))
  have O3 := Lib.hid ((O2.out.kept (Kept.alloc0 _ _) (by omega)).kept hk (by omega))
  clear hk K2 B12 B22 B32 O2 R2
  have c0 := B23.out.cell 0
  have c1 := B23.out.cell 1
  have c2 := X3.out.cell 0
  have c3 := X3.out.cell 1
  have c4 := B33.out.cell 0
  have c5 := B33.out.cell 1
  have c6 := B33.out.frozen 0
  have c7 := B33.out.frozen 1
  rw [hh]
  rcases O3.out.i.form with ⟨_, hz, _⟩ | ⟨g, rfl, gl, gh, _⟩
  · omega
  rcases O3.out.b.form with ⟨_, hz, _⟩ | ⟨g', rfl, gl', gh', _⟩
  · omega
  have gne : g ≠ g' := Own.ne O3.out.i O3.out.b (by decide)
  have e1 : w3.cell? ⟨g, k, none⟩ = some (.int .i64 a) := by rw [cell_own O3.out.i.1 hk1 (u := .int .i64 a) (by rw [List.getElem?_map, List.getElem?_eq_getElem hk1, HE.out]; rfl)]
  have e2 : ∃ u, w3.cell? ⟨g', k, none⟩ = some (.bool u) := ⟨_, cell_own O3.out.b.1 hk2 (u := .bool used[k]) (by rw [List.getElem?_map, List.getElem?_eq_getElem hk2]; rfl)⟩
  obtain ⟨u, e2⟩ := e2
  have f1 : w3.frozen? ⟨g, k, none⟩ = false := O3.out.i.1.frozenAt k
  have f2 : w3.frozen? ⟨g', k, none⟩ = false := O3.out.b.1.frozenAt k
  have m1 : g ≠ w2.heap.size := by omega
  have m2 : g' ≠ w2.heap.size := by omega
  have m3 : g ≠ w.heap.size + 1 := by omega
  have m4 : g' ≠ w.heap.size + 1 := by omega
  have m5 : g ≠ w.heap.size + 1 + 1 := by omega
  have m6 : g' ≠ w.heap.size + 1 + 1 := by omega
  have l3 : (k : Int) < (ages.length : Int) := by omega
  have l4 : (k : Int) < (used.length : Int) := by omega
  go_wp2
  refine bodyPost_ret (v := .tuple #[.agg #[.slice (some ⟨g, 0, none⟩) ages.length d, .slice (some ⟨g', 0, none⟩) used.length d'], .bool true]) (by simp [results, Try.results82, go_sem, c4, c5]) rfl ⟨some ⟨g, 0, none⟩, some ⟨g', 0, none⟩, d, d', rfl, ⟨?_, ?_⟩, ?_⟩
  · rw [Q1.out, EA.out, List.map_set]
    exact ((((O3.out.i.farB (p := ⟨g', k, none⟩) gne _).set_ k _).far (.inl (by simp; omega)) _).far (.inl (by simp; omega)) _).wide (by omega) (by simp; omega)
  · rw [Q2.out, EU.out, List.map_set]
    exact ((((O3.out.b.set_ k _).farB (p := ⟨g, k, none⟩) gne.symm _).far (.inl (by simp; omega)) _).far (.inl (by simp; omega)) _).wide (by omega) (by simp; omega)
  · exact (((K3.out.setCell (.inl (by simp; omega)) _).setCell (.inl (by simp; omega)) _).setCell (.inl (by simp; omega)) _).setCell (.inl (by simp; omega)) _
end Go.Proofs.Ytnnbfcmbcjkpoaa
