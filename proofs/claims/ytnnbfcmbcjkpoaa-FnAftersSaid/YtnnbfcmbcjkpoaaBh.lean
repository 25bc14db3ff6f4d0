/- The program's Taken; no condition. -/
import Derived.Test.YtnnbfcmbcjkpoaaBf
import Derived.Test.YtnnbfcmbcjkpoaaBe
namespace Go.Proofs.Ytnnbfcmbcjkpoaa
open Go.RowKit Go.Sort



/-- What a Taken function does: the lists, the handle and the bool that it returns. -/
def TakeDoes (f : Nat) (ages : List Int) (used : List Bool) (ages' : List Int) (used' : List Bool) (s a : Int) (b : Bool) : Prop :=
  ∀ (A A' : Option Addr) (c c' B : Nat) (w : World), B ≤ w.heap.size → RdL w B A A' ages used →
    Calls Try.prog f #[.agg #[.slice A ages.length c, .slice A' used.length c']] w fun e w' => ∃ (D D' : Option Addr) (d d' : Nat),
      e = .returned (.tuple #[.agg #[.slice D ages'.length d, .slice D' used'.length d'], .agg #[.int .i64 s, .int .i64 a], .bool b]) ∧ OwnL w' w.heap.size w'.heap.size D d D' d' ages' used' ∧ Kept 0 0 w w'

/-- No slot below k can be taken. -/
def NoneFree (ages : List Int) (used : List Bool) (k : Nat) : Prop := ∀ i, i < k → freeB ages used i = false

theorem stk_none {ages : List Int} {used : List Bool} (h : NoneFree ages used ages.length) : ∀ m, m ≤ ages.length → stk ages used m = [] := by
  intro m
  induction m with
  | zero => intro _; rfl
  | succ m ih =>
    intro hm
    rw [stk_full rfl (h _ (by omega))]
    exact ih (by omega)
theorem stk_first {ages : List Int} {used : List Bool} {k : Nat} (hk : k < ages.length) (hf : freeB ages used k = true) (h : NoneFree ages used k) : ∀ m, ages.length - k ≤ m → m ≤ ages.length → stk ages used m = stk ages used (ages.length - 1 - k) ++ [((k : Int), ages[k])] := by
  intro m
  induction m with
  | zero => intro h1 h2; omega
  | succ m ih =>
    intro h1 h2
    by_cases e : m = ages.length - 1 - k
    · subst e
      exact stk_free (by omega) hf hk
    · rw [stk_full rfl (h _ (by omega))]
      exact ih (by omega) (by omega)

set_option maxHeartbeats 1600000 in
theorem takeImpl_bad (ages : List Int) (used : List Bool) (hb : slotsOkB ages used = false) : TakeDoes 40 ages used [] [] 0 0 false := by
  intro A A' c c' B w hB h
  have H := Lib.hid h
  clear h
  go_enter Try.func40, Try.ntmps40
  go_wp2_with fail
  with_reducible refine (okImpl_any _ _ _ _ _ _ B _ (by simp; omega) (by exact H.out.kept hB (((Kept.alloc0 _ _).alloc _).alloc _) (.inl (Nat.le_refl _)))).mono ?_
  rintro e w1 ⟨rfl, hk⟩
  rw [hb]
  have b2 : Blk w1 (w.heap.size + 1) 31 #[.slice none 0 0, .slice none 0 0] := by have := ((Blk.new (w.alloc _) 31 _).alloc _).kept hk (by omega); simpa using this
  have b3 : Blk w1 (w.heap.size + 1 + 1) 40 #[.int .i64 0, .int .i64 0] := by have := ((Blk.new ((w.alloc _).alloc _) 40 _).kept hk (by omega)); simpa using this
  have K1 := Lib.hid ((((Kept.alloc0 _ _).alloc _).alloc _).trans hk)
  have B2 := Lib.hid b2
  have B3 := Lib.hid b3
  clear hk b2 b3
  have c0 := B2.out.cell 0
  have c1 := B2.out.cell 1
  have c2 := B2.out.frozen 0
  have c3 := B2.out.frozen 1
  have c4 := B3.out.cell 0
  have c5 := B3.out.cell 1
  have c6 := B3.out.frozen 0
  have c7 := B3.out.frozen 1
  go_wp2
  exact bodyPost_ret (v := .tuple #[.agg #[.slice none 0 0, .slice none 0 0], .agg #[.int .i64 0, .int .i64 0], .bool false]) (by simp [results, Try.results40, go_sem, c0, c1, c4, c5]) rfl ⟨none, none, 0, 0, rfl, own_none _ _ _, (((K1.out.setCell (.inl (by simp)) _).setCell (.inl (by simp)) _).setCell (.inl (by simp; omega)) _).setCell (.inl (by simp; omega)) _⟩

set_option maxHeartbeats 1600000 in
theorem takeImpl_no (ages : List Int) (used : List Bool) (hb : slotsOkB ages used = true) (hn : NoneFree ages used ages.length) : TakeDoes 40 ages used ages used 0 0 false := by
  intro A A' c c' B w hB h
  have H := Lib.hid h
  have hl := slotsOk_len hb
  have l1 : 1 ≤ ages.length := hl.1
  have l2 : ages.length ≤ 64 := hl.2.1
  have HL := Lib.hid hl.2.2
  have HN := Lib.hid (stk_none hn _ (Nat.le_refl _))
  clear hn
  clear h hl
  go_enter Try.func40, Try.ntmps40
  go_wp2_with fail
  with_reducible refine (okImpl_any _ _ _ _ _ _ B _ (by simp; omega) (by exact H.out.kept hB (((Kept.alloc0 _ _).alloc _).alloc _) (.inl (Nat.le_refl _)))).mono ?_
  rintro e w1 ⟨rfl, hk⟩
  rw [hb]
  have x1 : Blk w1 w.heap.size 31 #[.slice A ages.length c, .slice A' used.length c'] := (((Blk.new _ _ _).alloc _).alloc _).kept hk (by omega)
  have x2 : Blk w1 (w.heap.size + 1) 31 #[.slice none 0 0, .slice none 0 0] := by have := ((Blk.new (w.alloc _) 31 _).alloc _).kept hk (by omega); simpa using this
  have x3 : Blk w1 (w.heap.size + 1 + 1) 40 #[.int .i64 0, .int .i64 0] := by have := ((Blk.new ((w.alloc _).alloc _) 40 _).kept hk (by omega)); simpa using this
  have K1 := Lib.hid ((((Kept.alloc0 _ _).alloc _).alloc _).trans hk)
  have R1 := Lib.hid (H.out.kept hB K1.out (.inl (Nat.le_refl _)))
  have hB1 : B ≤ w1.heap.size := by have := K1.out.size; omega
  have B1 := Lib.hid x1
  have B2 := Lib.hid x2
  have B3 := Lib.hid x3
  have z1 := x3.lt
  clear hk x1 x2 x3 H
  have c0 := B1.out.cell 0
  have c1 := B1.out.cell 1
  go_wp2_with fail
  clear c0 c1
  with_reducible refine (copyImpl_any _ _ _ _ _ _ B _ hB1 (by exact R1.out) (by omega) (by omega) HL.out).mono ?_
  rintro e w2 ⟨D, D', d, d', rfl, ho, hk⟩
  have z2 := hk.size
  have n1 : w.heap.size < w2.heap.size := by omega
  have kk := hk.trans (Kept.alloc0 _ (.cells #[.slice D ages.length d, .slice D' used.length d'] 31))
  have K2 := Lib.hid (K1.out.trans kk)
  have R2 := Lib.hid (R1.out.kept hB1 kk (.inl (Nat.le_refl _)))
  have B12 := Lib.hid (B1.out.kept kk (by omega))
  have B22 := Lib.hid (B2.out.kept kk (by omega))
  have B32 := Lib.hid (B3.out.kept kk (by omega))
  have X2 := Lib.hid (Blk.new w2 31 #[.slice D ages.length d, .slice D' used.length d'])
  have O2 := Lib.hid (ho.kept (Kept.alloc0 _ (.cells #[.slice D ages.length d, .slice D' used.length d'] 31)) (.inl (Nat.le_refl _)))
  clear hk ho kk K1 R1 B1 B2 B3
  have c0 := B12.out.cell 0
  have c1 := B12.out.cell 1
  go_wp2_with fail
  clear c0 c1
  with_reducible refine (freeHandles_any _ _ _ _ _ _ B _ (by simp; omega) (by exact R2.out) (by omega) (by omega) HL.out).mono ?_
  rintro e w3 ⟨F, f, rfl, hr, hk⟩
  have z3 : w2.heap.size < w3.heap.size := by have := hk.size; simp at this; omega
  have hst : ∃ l, l = stk ages used ages.length := ⟨_, rfl⟩
  obtain ⟨l, hl⟩ := hst
  rw [← hl] at hr
  rw [← hl]
  have HS := Lib.hid hl
  clear hl
  have kk := hk.trans (Kept.alloc0 _ (.cells #[.slice F l.length f] 104))
  have K3 := Lib.hid (K2.out.trans kk)
  have B23 := Lib.hid (B22.out.kept kk (by omega))
  have B33 := Lib.hid (B32.out.kept kk (by omega))
  have X3 := Lib.hid (X2.out.kept kk (by omega))
  have O3 := Lib.hid (O2.out.kept kk (by omega))
  have S3 : Hid (Stk (w3.alloc (.cells #[.slice F l.length f] 104)) w3.heap.size (w2.heap.size + 1) F f l) := ⟨Blk.new _ _ _, row_kept (by simpa using hr) (Kept.alloc0 _ _)⟩
  clear hk hr kk K2 R2 B12 B22 B32 X2 O2
  go_wp2_with fail
  have hl0 : l = [] := HS.out.trans HN.out
  subst hl0
  with_reducible refine (pop_none _ _ _ _ _ S3.out).mono ?_
  rintro e w4 ⟨rfl, hk⟩
  have z4 : w3.heap.size < w4.heap.size := by have := hk.size; simp at this; omega
  have K4 := Lib.hid (K3.out.trans hk)
  have B24 := Lib.hid (B23.out.kept hk (by omega))
  have B34 := Lib.hid (B33.out.kept hk (by omega))
  have X4 := Lib.hid (X3.out.kept hk (by omega))
  have O4 := Lib.hid (O3.out.kept hk (by omega))
  have n4 : w2.heap.size < w4.heap.size := by omega
  have n5 : w.heap.size + 1 < w4.heap.size := by omega
  have n6 : w.heap.size + 1 + 1 < w4.heap.size := by omega
  have n7 : w.heap.size + 1 ≠ w2.heap.size := by omega
  have n8 : w.heap.size + 1 + 1 ≠ w2.heap.size := by omega
  clear hk K3 B23 B33 X3 O3 S3
  have c0 := X4.out.cell 0
  have c1 := X4.out.cell 1
  have c2 := B24.out.cell 0
  have c3 := B24.out.cell 1
  have c4 := B24.out.frozen 0
  have c5 := B24.out.frozen 1
  have c6 := B34.out.cell 0
  have c7 := B34.out.cell 1
  have c8 := B34.out.frozen 0
  have c9 := B34.out.frozen 1
  go_wp2
  go_region
  all_goals (try go_wp2)
  all_goals refine bodyPost_ret (v := .tuple #[.agg #[.slice D ages.length d, .slice D' used.length d'], .agg #[.int .i64 0, .int .i64 0], .bool false]) (by simp [results, Try.results40, go_sem, c2, c3, c6, c7, n5, n6]) rfl ⟨D, D', d, d', rfl, ⟨?_, ?_⟩, ?_⟩
  all_goals first
    | exact (((((O4.out.i.far (.inl (by simp; omega)) _).far (.inl (by simp; omega)) _).far (.inl (by simp; omega)) _).far (.inl (by simp; omega)) _).alloc _).wide (by omega) (by simp; omega)
    | exact (((((O4.out.b.far (.inl (by simp; omega)) _).far (.inl (by simp; omega)) _).far (.inl (by simp; omega)) _).far (.inl (by simp; omega)) _).alloc _).wide (by omega) (by simp; omega)
    | exact (((((K4.out.setCell (.inl (by simp)) _).setCell (.inl (by simp)) _).setCell (.inl (by simp; omega)) _).setCell (.inl (by simp; omega)) _).alloc _).drew

set_option maxHeartbeats 1600000 in
theorem takeImpl_yes (ages : List Int) (used : List Bool) (k : Nat) (used' : List Bool) (hb : slotsOkB ages used = true) (hk1 : k < ages.length) (hk2 : k < used.length) (hf : freeB ages used k = true) (hn : NoneFree ages used k) (eu : used' = used.set k true) : TakeDoes 40 ages used ages used' k ages[k] true := by
  intro A A' c c' B w hB h
  have H := Lib.hid h
  have hl := slotsOk_len hb
  have l1 : 1 ≤ ages.length := hl.1
  have l2 : ages.length ≤ 64 := hl.2.1
  have HL := Lib.hid hl.2.2
  have hm := stk_len ages used (ages.length - 1 - k)
  have HN := Lib.hid (stk_first hk1 hf hn ages.length (by omega) (Nat.le_refl _))
  have q2 : used'.length = used.length := by rw [eu]; simp
  rw [q2]
  have Q2 := Lib.hid q2
  have EU := Lib.hid eu
  clear hn hf q2 eu
  clear h hl
  go_enter Try.func40, Try.ntmps40
  go_wp2_with fail
  with_reducible refine (okImpl_any _ _ _ _ _ _ B _ (by simp; omega) (by exact H.out.kept hB (((Kept.alloc0 _ _).alloc _).alloc _) (.inl (Nat.le_refl _)))).mono ?_
  rintro e w1 ⟨rfl, hk⟩
  rw [hb]
  have x1 : Blk w1 w.heap.size 31 #[.slice A ages.length c, .slice A' used.length c'] := (((Blk.new _ _ _).alloc _).alloc _).kept hk (by omega)
  have x2 : Blk w1 (w.heap.size + 1) 31 #[.slice none 0 0, .slice none 0 0] := by have := ((Blk.new (w.alloc _) 31 _).alloc _).kept hk (by omega); simpa using this
  have x3 : Blk w1 (w.heap.size + 1 + 1) 40 #[.int .i64 0, .int .i64 0] := by have := ((Blk.new ((w.alloc _).alloc _) 40 _).kept hk (by omega)); simpa using this
  have K1 := Lib.hid ((((Kept.alloc0 _ _).alloc _).alloc _).trans hk)
  have R1 := Lib.hid (H.out.kept hB K1.out (.inl (Nat.le_refl _)))
  have hB1 : B ≤ w1.heap.size := by have := K1.out.size; omega
  have B1 := Lib.hid x1
  have B2 := Lib.hid x2
  have B3 := Lib.hid x3
  have z1 := x3.lt
  clear hk x1 x2 x3 H
  have c0 := B1.out.cell 0
  have c1 := B1.out.cell 1
  go_wp2_with fail
  clear c0 c1
  with_reducible refine (copyImpl_any _ _ _ _ _ _ B _ hB1 (by exact R1.out) (by omega) (by omega) HL.out).mono ?_
  rintro e w2 ⟨D, D', d, d', rfl, ho, hk⟩
  have z2 := hk.size
  have n1 : w.heap.size < w2.heap.size := by omega
  have kk := hk.trans (Kept.alloc0 _ (.cells #[.slice D ages.length d, .slice D' used.length d'] 31))
  have K2 := Lib.hid (K1.out.trans kk)
  have R2 := Lib.hid (R1.out.kept hB1 kk (.inl (Nat.le_refl _)))
  have B12 := Lib.hid (B1.out.kept kk (by omega))
  have B22 := Lib.hid (B2.out.kept kk (by omega))
  have B32 := Lib.hid (B3.out.kept kk (by omega))
  have X2 := Lib.hid (Blk.new w2 31 #[.slice D ages.length d, .slice D' used.length d'])
  have O2 := Lib.hid (ho.kept (Kept.alloc0 _ (.cells #[.slice D ages.length d, .slice D' used.length d'] 31)) (.inl (Nat.le_refl _)))
  clear hk ho kk K1 R1 B1 B2 B3
  have c0 := B12.out.cell 0
  have c1 := B12.out.cell 1
  go_wp2_with fail
  clear c0 c1
  with_reducible refine (freeHandles_any _ _ _ _ _ _ B _ (by simp; omega) (by exact R2.out) (by omega) (by omega) HL.out).mono ?_
  rintro e w3 ⟨F, f, rfl, hr, hk⟩
  have z3 : w2.heap.size < w3.heap.size := by have := hk.size; simp at this; omega
  have hst : ∃ l, l = stk ages used ages.length := ⟨_, rfl⟩
  obtain ⟨l, hl⟩ := hst
  rw [← hl] at hr
  rw [← hl]
  have HS := Lib.hid hl
  clear hl
  have kk := hk.trans (Kept.alloc0 _ (.cells #[.slice F l.length f] 104))
  have K3 := Lib.hid (K2.out.trans kk)
  have B23 := Lib.hid (B22.out.kept kk (by omega))
  have B33 := Lib.hid (B32.out.kept kk (by omega))
  have X3 := Lib.hid (X2.out.kept kk (by omega))
  have O3 := Lib.hid (O2.out.kept kk (by omega))
  have S3 : Hid (Stk (w3.alloc (.cells #[.slice F l.length f] 104)) w3.heap.size (w2.heap.size + 1) F f l) := ⟨Blk.new _ _ _, row_kept (by simpa using hr) (Kept.alloc0 _ _)⟩
  clear hk hr kk K2 R2 B12 B22 B32 X2 O2
  go_wp2_with fail
  have HE := Lib.hid (HS.out.trans HN.out)
  generalize stk ages used (ages.length - 1 - k) = l' at hm HE
  have hl0 := HE.out
  clear HE HS HN
  subst hl0
  with_reducible refine (pop_some _ _ _ _ _ _ _ _ S3.out (by omega)).mono ?_
  rintro e w4 ⟨rfl, hk⟩
  have z4 : w3.heap.size < w4.heap.size := by have := hk.size; simp at this; omega
  have K4 := Lib.hid (K3.out.trans2 hk (.inr (by omega)))
  have B24 := Lib.hid (B23.out.kept hk (by omega))
  have B34 := Lib.hid (B33.out.kept hk (by omega))
  have X4 := Lib.hid (X3.out.kept hk (by omega))
  have O4 := Lib.hid (O3.out.kept hk (by omega))
  have n4 : w2.heap.size < w4.heap.size := by omega
  have n5 : w.heap.size + 1 < w4.heap.size := by omega
  have n6 : w.heap.size + 1 + 1 < w4.heap.size := by omega
  have n7 : w.heap.size + 1 ≠ w2.heap.size := by omega
  have n8 : w.heap.size + 1 + 1 ≠ w2.heap.size := by omega
  clear hk K3 B23 B33 X3 O3 S3
  rcases O4.out.i.form with ⟨_, hz, _⟩ | ⟨g, rfl, gl, gh, _⟩
  · omega
  rcases O4.out.b.form with ⟨_, hz, _⟩ | ⟨g', rfl, gl', gh', _⟩
  · omega
  have gne : g ≠ g' := Own.ne O4.out.i O4.out.b (by decide)
  have e2 : ∃ u, w4.cell? ⟨g', k, none⟩ = some (.bool u) := ⟨_, cell_own O4.out.b.1 hk2 (u := .bool used[k]) (by rw [List.getElem?_map, List.getElem?_eq_getElem hk2]; rfl)⟩
  obtain ⟨u, e2⟩ := e2
  have f2 : w4.frozen? ⟨g', k, none⟩ = false := O4.out.b.1.frozenAt k
  have m2 : g' ≠ w2.heap.size := by omega
  have m4 : g' ≠ w.heap.size + 1 := by omega
  have m6 : g' ≠ w.heap.size + 1 + 1 := by omega
  have m7 : g' < w4.heap.size := by omega
  have l4 : (k : Int) < (used.length : Int) := by omega
  have c0 := X4.out.cell 0
  have c1 := X4.out.cell 1
  have c2 := B24.out.cell 0
  have c3 := B24.out.cell 1
  have c4 := B24.out.frozen 0
  have c5 := B24.out.frozen 1
  have c6 := B34.out.cell 0
  have c7 := B34.out.cell 1
  have c8 := B34.out.frozen 0
  have c9 := B34.out.frozen 1
  go_wp2
  go_region
  all_goals (try go_wp2)
  all_goals refine bodyPost_ret (v := .tuple #[.agg #[.slice (some ⟨g, 0, none⟩) ages.length d, .slice (some ⟨g', 0, none⟩) used.length d'], .agg #[.int .i64 k, .int .i64 ages[k]], .bool true]) (by simp [results, Try.results40, go_sem, c2, c3, c6, c7, n5, n6]) rfl ⟨some ⟨g, 0, none⟩, some ⟨g', 0, none⟩, d, d', rfl, ⟨?_, ?_⟩, ?_⟩
  all_goals first
    | exact ((((((O4.out.i.farB gne _).far (.inl (by simp; omega)) _).far (.inl (by simp; omega)) _).far (.inl (by simp; omega)) _).far (.inl (by simp; omega)) _).alloc _).wide (by omega) (by simp; omega)
    | (rw [Q2.out, EU.out, List.map_set]; exact ((((((O4.out.b.set_ k _).far (.inl (by simp; omega)) _).far (.inl (by simp; omega)) _).far (.inl (by simp; omega)) _).far (.inl (by simp; omega)) _).alloc _).wide (by omega) (by simp; omega))
    | exact ((((((K4.out.setCell (.inl (by simp; omega)) _).setCell (.inl (by simp)) _).setCell (.inl (by simp)) _).setCell (.inl (by simp; omega)) _).setCell (.inl (by simp; omega)) _).alloc _).drew
end Go.Proofs.Ytnnbfcmbcjkpoaa
