/- The reference's Begun; no condition beyond that the slices can be read. -/
import Derived.Test.YtlfbmjfbebbdlaaWd
namespace Go.Proofs.Ytlfbmjfbebbdlaa
open Go.RowKit Go.Sort

theorem kept_app {w w' : World} {D : Option Addr} (h : w.grownBy w' (rowAt D)) : Kept (aLo D) (aHi D) w w' := by
  cases D with
  | none => exact Kept.of_grown h (by intro k hk; cases hk)
  | some ad => exact Kept.of_grown h (by intro k hk; injection hk with hk; subst hk; exact ⟨Nat.le_refl _, Nat.lt_succ_self _⟩)
theorem blk_set2 {w : World} {g : Nat} {ty : TypeId} {a b : Value} (h : Blk w g ty #[a, b]) (p q : Value) : Blk ((w.setCell ⟨g, 0, none⟩ p).setCell ⟨g, 1, none⟩ q) g ty #[p, q] := by
  have := (h.set_ 0 p).set_ 1 q
  simpa using this
theorem blk_put1 {w : World} {g : Nat} {ty : TypeId} {a b : Value} (h : Blk w g ty #[a, b]) (q : Value) : Blk (w.setCell ⟨g, 1, none⟩ q) g ty #[a, q] := by
  have := h.set_ 1 q
  simpa using this
theorem kept_set2 (w : World) (g : Nat) (p q : Value) : Kept g (g + 1) w ((w.setCell ⟨g, 0, none⟩ p).setCell ⟨g, 1, none⟩ q) :=
  ((Kept.refl g (g + 1) w).setCell (p := ⟨g, 0, none⟩) (.inr ⟨Nat.le_refl _, Nat.lt_succ_self _⟩) _).setCell (p := ⟨g, 1, none⟩) (.inr ⟨Nat.le_refl _, Nat.lt_succ_self _⟩) _
theorem kept_put1 (w : World) (g : Nat) (q : Value) : Kept g (g + 1) w (w.setCell ⟨g, 1, none⟩ q) :=
  (Kept.refl g (g + 1) w).setCell (p := ⟨g, 1, none⟩) (.inr ⟨Nat.le_refl _, Nat.lt_succ_self _⟩) _
/-- A row stays while a block of another type is written. -/
theorem OwnZ.off {w w' : World} {lo hi e size n c g ty : Nat} {A : Option Addr} {xs : List Value} {cs : Array Value} (h : OwnZ w lo hi e size A n c xs) (hg : Blk w g ty cs) (hne : e ≠ ty) (hk : Kept g (g + 1) w w') : OwnZ w' lo hi e size A n c xs := by
  have hb := row_ne h.1 hg hne
  refine ⟨⟨h.1.1, ?_⟩, h.2⟩
  rcases h.1.2 with hn | ⟨g1, cap, cur, hv, hb1, hg1, rest⟩
  · exact .inl hn
  · refine .inr ⟨g1, cap, cur, hv, hb1, ?_, rest⟩
    rw [hk.block g1 (Array.getElem?_eq_some_iff.1 hg1).1 ?_]
    · exact hg1
    have : g1 ≠ g := by
      rintro rfl
      injection hv with h1
      subst h1
      exact hb rfl
    omega
theorem results_beg7 (tmps : Array Value) (w : World) (r : Nat) (v0 v1 : Value) (b : Bool) (hp : tmps[6]?.getD undef = .pointer (some ⟨r, 0, none⟩)) (hq : tmps[7]?.getD undef = .bool b) (h : Blk w r 31 #[v0, v1]) :
    (results Try.f27 tmps).run Try.prog w = .ok (.tuple #[.agg #[v0, v1], .bool b]) w := by
  have h0 := bs0 h
  have h1 := bs1 h
  simp [results, Try.results27, hp, hq, go_sem, h0, h1]

set_option maxHeartbeats 3200000 in
set_option maxRecDepth 100000 in
theorem beg7_any (t : List Nd) (s : Spr) (n : Int) (v u : Value) (w : World) (h : RdNd w w.heap.size v t) (h' : RdS w w.heap.size u s) :
    Calls Try.prog 27 #[v, u, .int .i64 n] w fun e w' => ∃ z, e = .returned (.tuple #[z, .bool (begunB t s n)]) ∧ OwnS w' w.heap.size w'.heap.size z (begunS t s n) ∧ Kept 0 0 w w' := by
  have HT := Lib.hid h
  have HS := Lib.hid h'
  obtain ⟨A, c, rfl, h⟩ := h
  have hm := h.rd.1
  unfold maxLen at hm
  clear h
  obtain ⟨hv, lv, rfl, ⟨A1, c1, rfl, s1⟩, ⟨A2, c2, rfl, s2⟩⟩ := h'
  clear s1 s2
  obtain ⟨W, hW⟩ : ∃ W, W = (w.alloc (.cells #[.slice A1 s.told.length c1, .slice A2 s.work.length c2] 31)).alloc (.cells #[.slice none 0 0, .slice none 0 0] 31) := ⟨_, rfl⟩
  have KW : Hid (Kept 0 0 w W) := by show Kept _ _ _ _; rw [hW]; exact (Kept.alloc0 _ _).alloc _
  have B0 : Hid (Blk W w.heap.size 31 #[.slice A1 s.told.length c1, .slice A2 s.work.length c2]) := by show Blk _ _ _ _; rw [hW]; exact (Blk.new _ _ _).alloc _
  have R0 : Hid (Blk W (w.heap.size + 1) 31 #[.slice none 0 0, .slice none 0 0]) := by
    show Blk _ _ _ _
    rw [hW]
    have := Blk.new (w.alloc (.cells #[.slice A1 s.told.length c1, .slice A2 s.work.length c2] 31)) 31 #[.slice none 0 0, .slice none 0 0]
    simpa using this
  have CO := Lib.hid (ok7_any t s _ _ W (HT.out.up KW.out) (HS.out.up KW.out))
  have HW := Lib.hid hW
  have zW : w.heap.size + 2 ≤ W.heap.size := by rw [hW]; simp
  clear hW
  have HI := Lib.hid iSlice
  go_enter Try.func27, Try.ntmps27
  go_wp2_with fail
  rw [← HW.out]
  with_reducible refine CO.out.mono ?_
  rintro e w1 ⟨rfl, hk⟩
  have K1 := Lib.hid (KW.out.trans hk)
  have B1 := Lib.hid (B0.out.kept hk (.inl (Nat.le_refl _)))
  have R1 := Lib.hid (R0.out.kept hk (.inl (Nat.le_refl _)))
  have z1 : w.heap.size + 2 ≤ w1.heap.size := Nat.le_trans zW hk.size
  clear hk CO KW B0 HW R0 zW
  cases q1 : spreadB t s
  · have E1 : Hid (begunB t s n = false) := (begun_no q1).1
    have E2 : Hid (begunS t s n = sprZ) := (begun_no q1).2
    have r0 := bs0 R1.out
    have r1 := bs1 R1.out
    have f0 := R1.out.frozen 0
    have f1 := R1.out.frozen 1
    clear q1
    go_wp2_with fail
    have R := Lib.hid (blk_set2 R1.out (.slice none 0 0) (.slice none 0 0))
    have KR := Lib.hid (K1.out.trans2 (kept_set2 _ (w.heap.size + 1) (.slice none 0 0) (.slice none 0 0)) (.inr (by omega)))
    rw [E1.out, E2.out]
    exact bodyPost_ret (results_beg7 _ _ (w.heap.size + 1) _ _ false rfl rfl R.out) rfl ⟨_, rfl, OwnS.nil _ _ _, KR.out⟩
  have Q1 := Lib.hid q1
  have HP := Lib.hid (spreadB_true.1 q1)
  clear q1
  have n1 : s.told.length ≤ 1048576 := by have := HP.out.told; have := HP.out.tree.len; omega
  have n2 : s.work.length ≤ 240 := HP.out.cap
  have b0 := bs0 B1.out
  have b1 := bs1 B1.out
  go_wp2_with fail
  with_reducible refine (copy7_any s _ w1 (HS.out.up K1.out) n1 (by omega)).mono ?_
  rintro e w2 ⟨u2, rfl, ⟨_, _, rfl, ⟨D1, d1, rfl, o1⟩, ⟨D2, d2, rfl, o2⟩⟩, hk⟩
  have O1 := Lib.hid o1
  have O2 := Lib.hid o2
  have K2 := Lib.hid (K1.out.trans hk)
  have B2 := Lib.hid (B1.out.kept hk (.inl (Nat.le_refl _)))
  have R2 := Lib.hid (R1.out.kept hk (.inl (Nat.le_refl _)))
  have z2 := hk.size
  clear hk o1 o2 b0 b1 B1 R1 K1
  obtain ⟨V, hV⟩ : ∃ V, V = w2.alloc (.cells #[.slice D1 s.told.length d1, .slice D2 s.work.length d2] 31) := ⟨_, rfl⟩
  have KV : Hid (Kept 0 0 w2 V) := by show Kept _ _ _ _; rw [hV]; exact Kept.alloc0 _ _
  have C3 : Hid (Blk V w2.heap.size 31 #[.slice D1 s.told.length d1, .slice D2 s.work.length d2]) := by show Blk _ _ _ _; rw [hV]; exact Blk.new _ _ _
  have B3 := Lib.hid (B2.out.kept KV.out (.inl (Nat.le_refl _)))
  have R3 := Lib.hid (R2.out.kept KV.out (.inl (Nat.le_refl _)))
  have P1 := Lib.hid (O1.out.kept KV.out (.inl (Nat.le_refl _)))
  have P2 := Lib.hid (O2.out.kept KV.out (.inl (Nat.le_refl _)))
  have K3 := Lib.hid (K2.out.trans KV.out)
  have y3 := C3.out.lt
  have HV := Lib.hid hV
  clear hV
  go_upto_region 4 with fail
  rw [← HV.out]
  clear HV O1 O2 B2 R2 K2 KV
  have b1 := bs1 B3.out
  go_wp2_with fail
  with_reducible refine (l1In_any _ _ _ _).mono ?_
  rintro e w' ⟨rfl, rfl⟩
  rcases hq : (inB t n && decide (s.work.length ≠ 240)) with _ | _
  · have E1 : Hid (begunB t s n = false) := (begun_out Q1.out hq).1
    have E2 : Hid (begunS t s n = s) := (begun_out Q1.out hq).2
    have r0 := bs0 R3.out
    have r1 := bs1 R3.out
    have f0 := R3.out.frozen 0
    have f1 := R3.out.frozen 1
    have c0 := bs0 C3.out
    have c1 := bs1 C3.out
    have fin : ∀ X : World, X = ((V.setCell ⟨w.heap.size + 1, 0, none⟩ (.slice D1 s.told.length d1)).setCell ⟨w.heap.size + 1, 1, none⟩ (.slice D2 s.work.length d2)) → Blk X (w.heap.size + 1) 31 #[.slice D1 s.told.length d1, .slice D2 s.work.length d2] ∧ OwnS X w.heap.size X.heap.size (.agg #[.slice D1 s.told.length d1, .slice D2 s.work.length d2]) s ∧ Kept 0 0 w X := by
      intro X hX
      have kx := kept_set2 V (w.heap.size + 1) (.slice D1 s.told.length d1) (.slice D2 s.work.length d2)
      rw [← hX] at kx
      have := kx.size
      refine ⟨by rw [hX]; exact blk_set2 R3.out _ _, ⟨_, _, rfl, ⟨D1, d1, rfl, (P1.out.kept kx (.inr (.inr (by omega)))).wide (by omega) (by omega)⟩, ⟨D2, d2, rfl, (P2.out.kept kx (.inr (.inr (by omega)))).wide (by omega) (by omega)⟩⟩, K3.out.trans2 kx (.inr (by omega))⟩
    cases hn : inB t n
    · have q2 : (decide ((0 : Int) ≤ n) && decide (n ≤ (t.length : Int) - 1)) = false := hn
      rw [q2]
      clear hq hn q2
      go_wp2_with fail
      obtain ⟨R, hO, hK⟩ := fin _ rfl
      rw [E1.out, E2.out]
      exact bodyPost_ret (results_beg7 _ _ (w.heap.size + 1) _ _ false rfl rfl R) rfl ⟨_, rfl, hO, hK⟩
    · have q2 : (decide ((0 : Int) ≤ n) && decide (n ≤ (t.length : Int) - 1)) = true := hn
      rw [q2]
      have q3 : ((s.work.length : Int) == 240) = true := by simp [hn] at hq; simp; omega
      clear hq hn q2
      go_wp2_with fail
      obtain ⟨R, hO, hK⟩ := fin _ rfl
      rw [E1.out, E2.out]
      exact bodyPost_ret (results_beg7 _ _ (w.heap.size + 1) _ _ false rfl rfl R) rfl ⟨_, rfl, hO, hK⟩
  · have E1 : Hid (begunB t s n = true) := (begun_in Q1.out hq).1
    have E2 : Hid (begunS t s n = ⟨s.told, s.work ++ [n]⟩) := (begun_in Q1.out hq).2
    simp only [Bool.and_eq_true, decide_eq_true_eq] at hq
    have q2 : (decide ((0 : Int) ≤ n) && decide (n ≤ (t.length : Int) - 1)) = true := hq.1
    rw [q2]
    have q3 : ((s.work.length : Int) == 240) = false := by simp; omega
    clear hq q2
    have c0 := bs0 C3.out
    have c1 := bs1 C3.out
    have r2 := P2.out.range
    go_upto_region 7 with (at_builtin; refine wpList_app (R := iR) rfl (.tmp 30) (.tmp 32) rfl HI.out w1.heap.size D2 d2 s.work rfl (row_kept P2.out.1 (Kept.alloc0 V (.cells #[.int .i64 n] 2))) (V.heap.size + 1) (some ⟨V.heap.size, 0, none⟩) 1 [n] rfl (rd_litI V n) (by simp [maxLen]; omega) (by simp; omega) (by simp; omega) ?_; intro D3 d3 w3 hown hgrow hat; have k3 := Lib.hid (((Kept.alloc0 V (.cells #[.int .i64 n] 2)).wide (lo' := aLo D2) (hi' := aHi D2) (.inl (Nat.le_refl _))).trans (kept_app hgrow)); have C4 := Lib.hid (C3.out.kept k3.out (by omega)); have R4 := Lib.hid (R3.out.kept k3.out (by omega)); have O3 := Lib.hid (OwnZ.of_row hown); have K4 := Lib.hid (K3.out.trans2 k3.out (by omega)); have z4 := k3.out.size; have T4 := Lib.hid (P2.out.other P1.out (by decide) k3.out); clear hown hgrow hat; have c1' := bs1 C4.out; have f1' := C4.out.frozen 1)
    obtain ⟨X, hX⟩ : ∃ X, X = w3.setCell ⟨w2.heap.size, 1, none⟩ (.slice D3 (s.work.length + 1) d3) := ⟨_, rfl⟩
    rw [← hX]
    have kx := kept_put1 w3 w2.heap.size (.slice D3 (s.work.length + 1) d3)
    have C5 : Hid (Blk X w2.heap.size 31 #[.slice D1 s.told.length d1, .slice D3 (s.work.length + 1) d3]) := by show Blk _ _ _ _; rw [hX]; exact blk_put1 C4.out _
    rw [← hX] at kx
    have zx := kx.size
    have R5 := Lib.hid (R4.out.kept kx (.inr (.inl (by omega))))
    have T5 := Lib.hid (T4.out.kept kx (.inr (.inl (Nat.le_refl _))))
    have O5 : Hid (OwnZ X w1.heap.size w3.heap.size 2 1 D3 (s.work.length + 1) d3 (iR.flat (s.work ++ [n]))) := by
      show OwnZ _ _ _ _ _ _ _ _ _
      have := O3.out.off C4.out (by decide) kx
      rw [iR_k] at this
      simpa using this
    have K5 := Lib.hid (K4.out.trans2 kx (.inr (by omega)))
    clear hX kx c0 c1 c1' f1' k3 R4 T4 O3 K4 C4
    have c0 := bs0 C5.out
    have c1 := bs1 C5.out
    have e0 := bs0 R5.out
    have e1 := bs1 R5.out
    have f0 := R5.out.frozen 0
    have f1 := R5.out.frozen 1
    go_wp2_with fail
    have R := Lib.hid (blk_set2 R5.out (.slice D1 s.told.length d1) (.slice D3 (s.work.length + 1) d3))
    have ky := kept_set2 X (w.heap.size + 1) (.slice D1 s.told.length d1) (.slice D3 (s.work.length + 1) d3)
    have zy := ky.size
    rw [E1.out, E2.out]
    exact bodyPost_ret (results_beg7 _ _ (w.heap.size + 1) _ _ true rfl rfl R.out) rfl ⟨_, rfl, ⟨_, _, rfl, ⟨D1, d1, rfl, (T5.out.kept ky (.inr (.inr (by omega)))).wide (by omega) (by omega)⟩, ⟨D3, d3, by simp, (by have := (O5.out.kept ky (.inr (.inr (by omega)))).wide (lo' := w.heap.size) (hi' := _) (by omega) (Nat.le_trans zx zy); simpa using this)⟩⟩, K5.out.trans2 ky (.inr (by omega))⟩
end Go.Proofs.Ytlfbmjfbebbdlaa
