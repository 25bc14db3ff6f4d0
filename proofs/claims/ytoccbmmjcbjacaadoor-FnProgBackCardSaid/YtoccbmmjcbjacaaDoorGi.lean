/- The draws of programs, valid or not, and of the program of a law; condition: the code can be read and has at most 4096 bytes. -/
import Derived.Test.YtoccbmmjcbjacaaDoorGh
namespace Go.Proofs.YtoccbmmjcbjacaaDoor
open Go.RowKit Go.Sort

set_option maxHeartbeats 6400000 in
theorem drawAny9_any (xs : List Int) (A : Option Addr) (c g : Nat) (w : World) (h : Cur w g A c xs) :
    Calls Tryd.prog 22 #[.pointer (some ⟨g, 0, none⟩)] w (DrawnP 13 g A c xs w) := by
  have hg := h.lt
  have HS := Lib.hid nsSlice
  have H := Lib.hid h
  clear h
  go_enter Tryd.func22, Tryd.ntmps22
  go_wp2_with fail
  with_reducible refine (draw9_any _ _ _ _ _ H.out).mono ?_
  rintro e w1 ⟨zs, D, d, rfl, zl, o1, hc, hk⟩
  have O1 := Lib.hid o1.1
  have C1 := Lib.hid hc
  have K1 := Lib.hid hk
  have N1 : Hid (∀ g', (Value.slice D zs.length d).ownBlock = some g' → w.heap.size ≤ g' ∧ g' < w1.heap.size) := fun g' h => by
    cases D with
    | none => cases h
    | some a => exact own_row_lo O1.out g' (by simpa [rowAt, Value.ownBlock] using h)
  clear hc hk o1 H
  go_wp2_with fail
  with_reducible refine (once_any _ _ _ _ _ _ C1.out (by omega) (by omega)).mono ?_
  rintro e w2 ⟨b, rfl, hc, hk⟩
  have O2 := Lib.hid (row_other O1.out (fun h => by have := N1.out _ h; omega) hk)
  have C2 := Lib.hid hc
  have K2 := Lib.hid (K1.out.trans hk)
  have z12 := hk.size
  clear hc hk O1 C1 K1
  cases b
  · go_wp2_with fail
    go_ret
    exact ⟨zs, D, d, rfl, by omega, OwnZ.of_row O2.out, C2.out, K2.out⟩
  go_wp2_with fail
  with_reducible refine (drawIns_any _ _ _ _ _ C2.out).mono ?_
  rintro e w3 ⟨x, rfl, hc, hk⟩
  obtain ⟨V, hV⟩ : ∃ V, V = w3.alloc (.cells #[.int .i64 x.op, .int .i64 x.a, .int .i64 x.b] 43) := ⟨_, rfl⟩
  obtain ⟨bx, hbx⟩ : ∃ bx, bx = w3.heap.size := ⟨_, rfl⟩
  have kV : Kept 0 0 w3 V := by rw [hV]; exact Kept.alloc0 _ _
  have S0 : Hid (Blk V bx 43 #[.int .i64 x.op, .int .i64 x.a, .int .i64 x.b]) := by show Blk _ _ _ _; rw [hV, hbx]; exact Blk.new _ _ _
  have z3 := hk.size
  have O0 := Lib.hid (row_kept (row_other O2.out (fun h => by have := N1.out _ h; omega) hk) kV)
  have C0 := Lib.hid (hc.kept kV (.inl (Nat.le_refl _)))
  have K0 := Lib.hid ((K2.out.trans hk).trans2 kV (.inl (Nat.zero_le _)))
  have hb1 : w1.heap.size ≤ bx := by rw [hbx]; omega
  have hb2 : w.heap.size ≤ bx := by rw [hbx]; exact (K2.out.trans hk).size
  have N3 : Hid (∀ g', (Value.slice D zs.length d).ownBlock = some g' → g < g' ∧ g' < bx) := fun g' h => by have := N1.out g' h; omega
  have HV := Lib.hid hV
  have HB := Lib.hid hbx
  clear hc hk O2 C2 K2 hV hbx kV N1 z3 z12
  go_upto_region 4 with fail
  rw [← HV.out, ← HB.out]
  clear HV HB
  go_wp2_with fail
  with_reducible refine (below_any _ _ _ _ _ _ C0.out (by omega) (by omega)).mono ?_
  rintro e w4 ⟨r, rfl, ⟨hr0, hr1⟩, hc, hk⟩
  have S3 := Lib.hid (S0.out.kept hk (by omega))
  have O3 := Lib.hid (row_other O0.out (fun h => by have := N3.out _ h; omega) hk)
  have C3 := Lib.hid hc
  have K3 := Lib.hid (K0.out.trans hk)
  clear hc hk S0 O0 C0 K0
  rcases (by omega : r = 0 ∨ r = 1 ∨ r = 2) with rfl | rfl | rfl
  · go_wp2_with fail
    with_reducible refine (from_any _ _ _ _ _ _ _ C3.out (by omega) (by omega) (by omega) (by omega)).mono ?_
    rintro e w5 ⟨q, rfl, -, hc, hk⟩
    have B5 := S3.out.kept hk (by omega)
    have cc := B5.cell 0
    have f := B5.frozen 0
    obtain ⟨U, hU⟩ : ∃ U, U = w5.setCell ⟨bx, 0, none⟩ (.int .i64 q) := ⟨_, rfl⟩
    obtain ⟨y, hy⟩ : ∃ y : Ins, y = ⟨q, x.a, x.b⟩ := ⟨_, rfl⟩
    have kU : Kept bx (bx + 1) w5 U := by rw [hU]; exact Kept.setCell (Kept.refl bx (bx + 1) w5) (p := ⟨bx, 0, none⟩) (.inr ⟨Nat.le_refl _, Nat.lt_succ_self _⟩) _
    have BU : Hid (Blk U bx 43 #[.int .i64 y.op, .int .i64 y.a, .int .i64 y.b]) := by show Blk _ _ _ _; rw [hU, hy]; exact B5.set_ 0 (.int .i64 q)
    have CU := Lib.hid (hc.kept kU (.inr (by omega)))
    have O5 := row_other O3.out (fun h => by have := N3.out _ h; omega) hk
    have OU := Lib.hid (row_other O5 (fun h => by have := N3.out _ h; omega) kU)
    have KU := Lib.hid ((K3.out.trans hk).trans2 kU (.inr (by omega)))
    have HU := Lib.hid hU
    clear hc hk S3 O3 C3 K3 hU hy O5 kU B5
    go_upto_region 11 with fail
    rw [← HU.out]
    clear HU cc f
    have m0 := ins0 BU.out
    have m1 := ins1 BU.out
    have m2 := ins2 BU.out
    have zU := KU.out.size
    go_wp2_with (at_builtin; go_must (refine wpList_app (R := nsR) rfl (.tmp 28) (.tmp 30) rfl HS.out w.heap.size D d zs rfl (row_kept OU.out (Kept.alloc0 U (.cells #[.int .i64 y.op, .int .i64 y.a, .int .i64 y.b] 43))) (U.heap.size + 1) (some ⟨U.heap.size, 0, none⟩) 1 [y] rfl (rd_litI3' U y) (by simp [maxLen]; omega) (by simp; omega) (by simp; omega) ?_); intro D2 d2 w7 hown hgrow hat)
    have CA : Cur (U.alloc (.cells #[.int .i64 y.op, .int .i64 y.a, .int .i64 y.b] 43)) g A c xs := CU.out.kept (Kept.alloc0 _ _) (.inl (Nat.le_refl _))
    have NA : ∀ k, rowAt D = some k → w.heap.size ≤ k := fun k hk => (own_row_lo OU.out k hk).1
    have kg : Kept w.heap.size w7.heap.size (U.alloc (.cells #[.int .i64 y.op, .int .i64 y.a, .int .i64 y.b] 43)) w7 := Kept.of_grown hgrow (fun k hk => ⟨NA k hk, Nat.lt_of_lt_of_le (by have := (own_row_lo OU.out k hk).2; simp; omega) hgrow.size⟩)
    have C7 := Lib.hid (CA.kept kg (.inr (by omega)))
    have K7 := Lib.hid ((KU.out.alloc (.cells #[.int .i64 y.op, .int .i64 y.a, .int .i64 y.b] 43)).trans2 kg (.inr (Nat.le_refl _)))
    have O7 := Lib.hid hown
    clear hown hgrow hat OU CU KU CA NA kg m0 m1 m2
    go_wp2_with fail
    go_ret
    exact ⟨zs ++ [y], D2, d2, by rw [List.length_append]; rfl, by simp; omega, OwnZ.of_row O7.out, C7.out, K7.out⟩
  · go_wp2_with fail
    with_reducible refine (num_any _ _ _ _ _ C3.out).mono ?_
    rintro e w5 ⟨q, rfl, -, hc, hk⟩
    have B5 := S3.out.kept hk (by omega)
    have cc := B5.cell 1
    have f := B5.frozen 1
    obtain ⟨U, hU⟩ : ∃ U, U = w5.setCell ⟨bx, 1, none⟩ (.int .i64 q) := ⟨_, rfl⟩
    obtain ⟨y, hy⟩ : ∃ y : Ins, y = ⟨x.op, q, x.b⟩ := ⟨_, rfl⟩
    have kU : Kept bx (bx + 1) w5 U := by rw [hU]; exact Kept.setCell (Kept.refl bx (bx + 1) w5) (p := ⟨bx, 1, none⟩) (.inr ⟨Nat.le_refl _, Nat.lt_succ_self _⟩) _
    have BU : Hid (Blk U bx 43 #[.int .i64 y.op, .int .i64 y.a, .int .i64 y.b]) := by show Blk _ _ _ _; rw [hU, hy]; exact B5.set_ 1 (.int .i64 q)
    have CU := Lib.hid (hc.kept kU (.inr (by omega)))
    have O5 := row_other O3.out (fun h => by have := N3.out _ h; omega) hk
    have OU := Lib.hid (row_other O5 (fun h => by have := N3.out _ h; omega) kU)
    have KU := Lib.hid ((K3.out.trans hk).trans2 kU (.inr (by omega)))
    have HU := Lib.hid hU
    clear hc hk S3 O3 C3 K3 hU hy O5 kU B5
    go_upto_region 11 with fail
    rw [← HU.out]
    clear HU cc f
    have m0 := ins0 BU.out
    have m1 := ins1 BU.out
    have m2 := ins2 BU.out
    have zU := KU.out.size
    go_wp2_with (at_builtin; go_must (refine wpList_app (R := nsR) rfl (.tmp 28) (.tmp 30) rfl HS.out w.heap.size D d zs rfl (row_kept OU.out (Kept.alloc0 U (.cells #[.int .i64 y.op, .int .i64 y.a, .int .i64 y.b] 43))) (U.heap.size + 1) (some ⟨U.heap.size, 0, none⟩) 1 [y] rfl (rd_litI3' U y) (by simp [maxLen]; omega) (by simp; omega) (by simp; omega) ?_); intro D2 d2 w7 hown hgrow hat)
    have CA : Cur (U.alloc (.cells #[.int .i64 y.op, .int .i64 y.a, .int .i64 y.b] 43)) g A c xs := CU.out.kept (Kept.alloc0 _ _) (.inl (Nat.le_refl _))
    have NA : ∀ k, rowAt D = some k → w.heap.size ≤ k := fun k hk => (own_row_lo OU.out k hk).1
    have kg : Kept w.heap.size w7.heap.size (U.alloc (.cells #[.int .i64 y.op, .int .i64 y.a, .int .i64 y.b] 43)) w7 := Kept.of_grown hgrow (fun k hk => ⟨NA k hk, Nat.lt_of_lt_of_le (by have := (own_row_lo OU.out k hk).2; simp; omega) hgrow.size⟩)
    have C7 := Lib.hid (CA.kept kg (.inr (by omega)))
    have K7 := Lib.hid ((KU.out.alloc (.cells #[.int .i64 y.op, .int .i64 y.a, .int .i64 y.b] 43)).trans2 kg (.inr (Nat.le_refl _)))
    have O7 := Lib.hid hown
    clear hown hgrow hat OU CU KU CA NA kg m0 m1 m2
    go_wp2_with fail
    go_ret
    exact ⟨zs ++ [y], D2, d2, by rw [List.length_append]; rfl, by simp; omega, OwnZ.of_row O7.out, C7.out, K7.out⟩
  · go_wp2_with fail
    with_reducible refine (num_any _ _ _ _ _ C3.out).mono ?_
    rintro e w5 ⟨q, rfl, -, hc, hk⟩
    have B5 := S3.out.kept hk (by omega)
    have cc := B5.cell 2
    have f := B5.frozen 2
    obtain ⟨U, hU⟩ : ∃ U, U = w5.setCell ⟨bx, 2, none⟩ (.int .i64 q) := ⟨_, rfl⟩
    obtain ⟨y, hy⟩ : ∃ y : Ins, y = ⟨x.op, x.a, q⟩ := ⟨_, rfl⟩
    have kU : Kept bx (bx + 1) w5 U := by rw [hU]; exact Kept.setCell (Kept.refl bx (bx + 1) w5) (p := ⟨bx, 2, none⟩) (.inr ⟨Nat.le_refl _, Nat.lt_succ_self _⟩) _
    have BU : Hid (Blk U bx 43 #[.int .i64 y.op, .int .i64 y.a, .int .i64 y.b]) := by show Blk _ _ _ _; rw [hU, hy]; exact B5.set_ 2 (.int .i64 q)
    have CU := Lib.hid (hc.kept kU (.inr (by omega)))
    have O5 := row_other O3.out (fun h => by have := N3.out _ h; omega) hk
    have OU := Lib.hid (row_other O5 (fun h => by have := N3.out _ h; omega) kU)
    have KU := Lib.hid ((K3.out.trans hk).trans2 kU (.inr (by omega)))
    have HU := Lib.hid hU
    clear hc hk S3 O3 C3 K3 hU hy O5 kU B5
    go_upto_region 11 with fail
    rw [← HU.out]
    clear HU cc f
    have m0 := ins0 BU.out
    have m1 := ins1 BU.out
    have m2 := ins2 BU.out
    have zU := KU.out.size
    go_wp2_with (at_builtin; go_must (refine wpList_app (R := nsR) rfl (.tmp 28) (.tmp 30) rfl HS.out w.heap.size D d zs rfl (row_kept OU.out (Kept.alloc0 U (.cells #[.int .i64 y.op, .int .i64 y.a, .int .i64 y.b] 43))) (U.heap.size + 1) (some ⟨U.heap.size, 0, none⟩) 1 [y] rfl (rd_litI3' U y) (by simp [maxLen]; omega) (by simp; omega) (by simp; omega) ?_); intro D2 d2 w7 hown hgrow hat)
    have CA : Cur (U.alloc (.cells #[.int .i64 y.op, .int .i64 y.a, .int .i64 y.b] 43)) g A c xs := CU.out.kept (Kept.alloc0 _ _) (.inl (Nat.le_refl _))
    have NA : ∀ k, rowAt D = some k → w.heap.size ≤ k := fun k hk => (own_row_lo OU.out k hk).1
    have kg : Kept w.heap.size w7.heap.size (U.alloc (.cells #[.int .i64 y.op, .int .i64 y.a, .int .i64 y.b] 43)) w7 := Kept.of_grown hgrow (fun k hk => ⟨NA k hk, Nat.lt_of_lt_of_le (by have := (own_row_lo OU.out k hk).2; simp; omega) hgrow.size⟩)
    have C7 := Lib.hid (CA.kept kg (.inr (by omega)))
    have K7 := Lib.hid ((KU.out.alloc (.cells #[.int .i64 y.op, .int .i64 y.a, .int .i64 y.b] 43)).trans2 kg (.inr (Nat.le_refl _)))
    have O7 := Lib.hid hown
    clear hown hgrow hat OU CU KU CA NA kg m0 m1 m2
    go_wp2_with fail
    go_ret
    exact ⟨zs ++ [y], D2, d2, by rw [List.length_append]; rfl, by simp; omega, OwnZ.of_row O7.out, C7.out, K7.out⟩
set_option maxHeartbeats 1600000 in
theorem drawShow_any (xs : List Int) (A : Option Addr) (c : Nat) (w : World) (h : Rd (Value.int .u8) w w.heap.size A xs) (hx : ∀ x ∈ xs, 0 ≤ x ∧ x ≤ 255) (hl : xs.length ≤ 4096) :
    Calls Tryd.prog 7 #[.slice A xs.length c] w fun e w' => ∃ (zs : List Ins) (D : Option Addr) (d : Nat), e = .returned (.slice D zs.length d) ∧ zs.length ≤ 13 ∧ OwnZ w' w.heap.size w'.heap.size 43 3 D zs.length d (nsR.flat zs) ∧ Kept 0 0 w w' := by
  have CN := Lib.hid (new_any xs A c w h hx hl)
  clear h hx
  go_enter Tryd.func7, Tryd.ntmps7
  go_wp2_with fail
  with_reducible refine CN.out.mono ?_
  rintro e w1 ⟨rfl, hc, hk⟩
  have C1 := Lib.hid hc
  have K1 := Lib.hid hk
  clear hc hk CN
  go_wp2_with fail
  with_reducible refine (drawAny9_any _ _ _ _ _ C1.out).mono ?_
  rintro e w2 ⟨zs, D, d, rfl, zl, o2, hc, hk⟩
  have O2 := Lib.hid o2
  have K2 : Hid (Kept 0 0 w w2) := K1.out.trans2 hk (.inr (Nat.le_refl _))
  have z1 := K1.out.size
  clear o2 hc hk
  go_wp2_with fail
  go_ret
  exact ⟨zs, D, d, rfl, zl, O2.out.wide z1 (Nat.le_refl _), K2.out⟩
end Go.Proofs.YtoccbmmjcbjacaaDoor
