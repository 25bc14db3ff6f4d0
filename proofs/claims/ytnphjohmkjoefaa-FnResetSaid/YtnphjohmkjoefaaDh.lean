/- The draws of heaps: each returns at most 64 elements in new memory and turns nothing old but the cursor; condition: the code can be read and has at most 4096 bytes. -/
import Derived.Test.YtnphjohmkjoefaaDr
import Derived.Test.YtnphjohmkjoefaaLv
namespace Go.Proofs.Ytnphjohmkjoefaa
open Go.RowKit Go.Sort

/-- What a draw of yes or no leaves. -/
def DrawnB (g : Nat) (A : Option Addr) (c : Nat) (xs : List Int) (w : World) (e : Ending) (w' : World) : Prop :=
  ∃ b : Bool, e = .returned (.bool b) ∧ Cur w' g A c xs ∧ Kept g (g + 1) w w'
set_option maxHeartbeats 400000 in
theorem once_any (xs : List Int) (A : Option Addr) (c g : Nat) (n : Int) (w : World) (h : Cur w g A c xs) (h1 : 1 ≤ n) (h2 : n ≤ 256) :
    Calls Try.prog 14 #[.pointer (some ⟨g, 0, none⟩), .int .i64 n] w (DrawnB g A c xs w) := by
  have H := Lib.hid h
  clear h
  go_enter Try.func14, Try.ntmps14
  go_wp2_with fail
  with_reducible refine (below_any _ _ _ _ _ _ H.out h1 h2).mono ?_
  rintro e w1 ⟨r, rfl, ⟨hr0, hr1⟩, hc, hk⟩
  have HC := Lib.hid hc
  have HK := Lib.hid hk
  clear hc hk
  go_wp2
  go_ret
  exact ⟨r == 0, rfl, HC.out, HK.out⟩

/-- What a draw of a heap leaves. -/
def DrawnT (g : Nat) (A : Option Addr) (c : Nat) (xs : List Int) (w : World) (e : Ending) (w' : World) : Prop :=
  ∃ (v : Value) (h : List Tw), e = .returned v ∧ h.length ≤ 64 ∧ OwnT w' w.heap.size w'.heap.size v h ∧ Cur w' g A c xs ∧ Kept g (g + 1) w w'

/-- The state of a draw under way: a heap of the call's own. -/
structure DrawSt (w wr : World) (g : Nat) (A : Option Addr) (c : Nat) (xs : List Int) (v : Value) (h : List Tw) : Prop where
  len : h.length ≤ 64
  own : OwnT wr w.heap.size wr.heap.size v h
  cur : Cur wr g A c xs
  kept : Kept g (g + 1) w wr
section
variable {w wr wr' : World} {g c : Nat} {A : Option Addr} {xs : List Int} {v v' : Value} {h h' : List Tw}
theorem DrawSt.draw (hs : DrawSt w wr g A c xs v h) (hg : g < w.heap.size) (hc : Cur wr' g A c xs) (hk : Kept g (g + 1) wr wr') : DrawSt w wr' g A c xs v h :=
  ⟨hs.len, (hs.own.kept hk (by omega)).wide (Nat.le_refl _) hk.size, hc, hs.kept.trans hk⟩
theorem DrawSt.new (hs : DrawSt w wr g A c xs v h) (_hg : g < w.heap.size) (hl : h'.length ≤ 64) (ho : OwnT wr' wr.heap.size wr'.heap.size v' h') (hk : Kept 0 0 wr wr') : DrawSt w wr' g A c xs v' h' :=
  ⟨hl, ho.wide hs.kept.size (Nat.le_refl _), hs.cur.kept hk (.inl (Nat.le_refl _)), hs.kept.trans (hk.wide (.inl (Nat.le_refl _)))⟩
theorem DrawSt.same (hs : DrawSt w wr g A c xs v h) (hk : Kept 0 0 wr wr') : DrawSt w wr' g A c xs v h :=
  ⟨hs.len, (hs.own.kept hk (.inl (Nat.le_refl _))).wide (Nat.le_refl _) hk.size, hs.cur.kept hk (.inl (Nat.le_refl _)), hs.kept.trans (hk.wide (.inl (Nat.le_refl _)))⟩
end
theorem ownT_empty (w : World) : OwnT (w.alloc (.cells #[] 77)) w.heap.size (w.alloc (.cells #[] 77)).heap.size (.slice (some ⟨w.heap.size, 0, none⟩) 0 0) [] :=
  ⟨_, _, rfl, OwnZ.of_row (own_empty3 w)⟩
theorem putL_len (xs : List Tw) (p q : Int) : (putL xs p q).length ≤ 64 := mergedL_len _ _

set_option maxHeartbeats 3200000 in
theorem drawH_any (xs : List Int) (A : Option Addr) (c g : Nat) (base : Int) (w : World) (hc0 : Cur w g A c xs) :
    Calls Try.prog 66 #[.pointer (some ⟨g, 0, none⟩), .int .i64 base] w (DrawnT g A c xs w) := by
  have hg := hc0.lt
  have S0 : Hid (DrawSt w (w.alloc (.cells #[] 77)) g A c xs (.slice (some ⟨w.heap.size, 0, none⟩) 0 0) []) :=
    ⟨by simp, ownT_empty w, hc0.kept (Kept.alloc0 _ _) (.inl (Nat.le_refl _)), (Kept.refl _ _ _).alloc _⟩
  clear hc0
  go_enter Try.func66, Try.ntmps66
  go_wp2_with fail
  with_reducible refine (below_any _ _ _ _ _ _ S0.out.cur (by omega) (by omega)).mono ?_
  rintro e w1 ⟨r, rfl, ⟨hr0, hr1⟩, hc, hk⟩
  have S1 := Lib.hid (S0.out.draw hg hc hk)
  clear hc hk S0
  obtain ⟨n, rfl⟩ := Int.eq_ofNat_of_zero_le hr0
  go_wp2_with fail
  go_loopw [5, 6] (fun v i wr => ∃ (m : Nat) (h : List Tw), m ≤ n ∧ i = .int .i64 m ∧ Hid (DrawSt w wr g A c xs v h)) (fun _ i _ => (intOf i).toNat)
  case atStart => exact ⟨n, [], Nat.le_refl _, rfl, S1⟩
  case round =>
    clear S1
    obtain ⟨m, h, hm, rfl, ST⟩ := hrel
    obtain ⟨hv, rfl⟩ : ∃ hv, u5 = hv := ⟨_, rfl⟩
    by_cases hm0 : 0 < m
    · have i1 : (0 : Int) < (m : Int) := by omega
      go_wp2_with fail
      with_reducible refine (once_any _ _ _ _ _ _ ST.out.cur (by omega) (by omega)).mono ?_
      rintro e w2 ⟨b, rfl, hc, hk⟩
      have S2 := Lib.hid (ST.out.draw hg hc hk)
      clear hc hk ST
      cases b with
      | true =>
        go_wp2_with fail
        with_reducible refine (specShifted.at_ h _ _ (S2.out.own.rdW (Nat.le_refl _))).mono ?_
        rintro e w3 ⟨u, rfl, ho, hk⟩
        have S3 := Lib.hid (S2.out.new hg (shiftedL_len h) ho hk)
        clear ho hk S2
        go_wp2_with fail
        go_roundw
        case rel => exact ⟨m - 1, shiftedL h, by omega, by rw [show ((m - 1 : Nat) : Int) = (m : Int) - 1 from by omega], S3⟩
        case measure => simp [intOf]; omega
      | false =>
        go_wp2_with fail
        with_reducible refine (below_any _ _ _ _ _ _ S2.out.cur (by omega) (by omega)).mono ?_
        rintro e w3 ⟨due, rfl, ⟨hd0, hd1⟩, hc, hk⟩
        have S3 := Lib.hid (S2.out.draw hg hc hk)
        clear hc hk S2
        go_wp2_with fail
        with_reducible refine (once_any _ _ _ _ _ _ S3.out.cur (by omega) (by omega)).mono ?_
        rintro e w4 ⟨b, rfl, hc, hk⟩
        have S4 := Lib.hid (S3.out.draw hg hc hk)
        clear hc hk S3
        go_upto_if 29 with fail
        go_cut [7] (fun p wx => ∃ du : Int, p = .int .i64 du ∧ Hid (DrawSt w wx g A c xs u5 h))
        case first =>
          cases b with
          | true =>
            go_wp2_with fail
            with_reducible refine (draw_any _ _ _ _ _ S4.out.cur).mono ?_
            rintro e w5 ⟨du, rfl, -, hc, hk⟩
            have S5 := Lib.hid (S4.out.draw hg hc hk)
            clear hc hk S4
            go_wp2_with fail
            go_meet
            exact ⟨du, rfl, S5⟩
          | false =>
            go_wp2_with fail
            go_meet
            exact ⟨due, rfl, S4⟩
        case rest =>
          obtain ⟨du, rfl, S5⟩ := hcut
          clear S4
          go_wp2_with fail
          with_reducible refine (below_any _ _ _ _ _ _ S5.out.cur (by omega) (by omega)).mono ?_
          rintro e w6 ⟨sq, rfl, ⟨hs0, hs1⟩, hc, hk⟩
          have S6 := Lib.hid (S5.out.draw hg hc hk)
          clear hc hk S5
          go_wp2_with fail
          with_reducible refine (specPut.at_ h _ _ _ _ (S6.out.own.rdW (Nat.le_refl _))).mono ?_
          rintro e w7 ⟨u, rfl, ho, hk⟩
          have S7 := Lib.hid (S6.out.same hk)
          have S7' := Lib.hid (S6.out.new hg (putL_len _ _ _) ho hk)
          clear ho hk S6
          generalize putOk h du _ = bb
          cases bb with
          | true =>
            go_wp2_with fail
            go_roundw
            case rel => exact ⟨m - 1, _, by omega, by rw [show ((m - 1 : Nat) : Int) = (m : Int) - 1 from by omega], S7'⟩
            case measure => simp [intOf]; omega
          | false =>
            go_wp2_with fail
            go_roundw
            case rel => exact ⟨m - 1, h, by omega, by rw [show ((m - 1 : Nat) : Int) = (m : Int) - 1 from by omega], S7⟩
            case measure => simp [intOf]; omega
    · have i1 : ¬ (0 : Int) < (m : Int) := by omega
      go_wp2_with fail
      with_reducible refine (once_any _ _ _ _ _ _ ST.out.cur (by omega) (by omega)).mono ?_
      rintro e w2 ⟨b, rfl, hc, hk⟩
      have S2 := Lib.hid (ST.out.draw hg hc hk)
      clear hc hk ST
      cases b with
      | false =>
        go_wp2
        go_ret
        exact ⟨_, h, rfl, S2.out.len, S2.out.own, S2.out.cur, S2.out.kept⟩
      | true =>
        have S3 := Lib.hid (S2.out.new (h' := []) hg (by simp) (ownT_empty w2) (Kept.alloc0 _ _))
        clear S2
        go_wp2_with fail
        go_loopw [5, 10] (fun v i wx => ∃ (j : Nat) (h : List Tw), j ≤ 64 ∧ i = .int .i64 j ∧ Hid (DrawSt w wx g A c xs v h)) (fun _ i _ => 64 - (intOf i).toNat)
        case atStart => exact ⟨0, [], Nat.zero_le _, rfl, S3⟩
        case round =>
          clear S3
          obtain ⟨j, h2, hj, rfl, S4⟩ := hrel
          go_wp2_with fail
          with_reducible refine (below_any _ _ _ _ _ _ S4.out.cur (by omega) (by omega)).mono ?_
          rintro e w4 ⟨r, rfl, ⟨hr0', hr1'⟩, hc, hk⟩
          have S5 := Lib.hid (S4.out.draw hg hc hk)
          clear hc hk S4
          by_cases hlt : (j : Int) < 64 - r
          · have hlt' : decide ((j : Int) < 64 - r) = true := by simpa using hlt
            go_wp2_with fail
            with_reducible refine (below_any _ _ _ _ _ _ S5.out.cur (by omega) (by omega)).mono ?_
            rintro e w5 ⟨due, rfl, ⟨hd0, hd1⟩, hc, hk⟩
            have S6 := Lib.hid (S5.out.draw hg hc hk)
            clear hc hk S5
            go_wp2_with fail
            with_reducible refine (specPut.at_ h2 _ _ _ _ (S6.out.own.rdW (Nat.le_refl _))).mono ?_
            rintro e w7 ⟨u, rfl, ho, hk⟩
            have S7 := Lib.hid (S6.out.new hg (putL_len _ _ _) ho hk)
            clear ho hk S6
            go_wp2_with fail
            go_roundw
            case rel => exact ⟨j + 1, _, by omega, by go_num, S7⟩
            case measure => simp [intOf]; omega
          · have hlt' : decide ((j : Int) < 64 - r) = false := by simpa using hlt
            go_wp2
            go_ret
            exact ⟨_, h2, rfl, S5.out.len, S5.out.own, S5.out.cur, S5.out.kept⟩

theorem own_cells {w : World} {lo hi : Nat} {v : Value} {h : List Tw} (ho : OwnT w lo hi v h) {i : Nat} (hi' : i < h.length) :
    ∃ b d, v = .slice (some ⟨b, 0, none⟩) h.length d ∧ lo ≤ b ∧ b < hi ∧ w.ownsRow lo 77 3 (.slice (some ⟨b, 0, none⟩) h.length d) h.length (twR.flat h) := by
  obtain ⟨D, d, rfl, ho⟩ := ho
  rcases ho.form with ⟨_, h0, _⟩ | ⟨b, rfl, h1, h2, _⟩
  · omega
  · exact ⟨b, d, rfl, h1, h2, ho.1⟩
/-- One field of an element is set. -/
theorem own_set1 {w : World} {base e n c g : Nat} {xs : List Tw} (h : w.ownsRow base e 3 (.slice (some ⟨g, 0, none⟩) n c) n (twR.flat xs)) {i : Nat} (hi : i < xs.length) (j : Nat) (hj : j < 3) (q : Int) :
    ∃ x, (w.setCell ⟨g, i * 3 + j, none⟩ (.int .i64 q)).ownsRow base e 3 (.slice (some ⟨g, 0, none⟩) n c) n (twR.flat (xs.set i x)) := by
  have h1 := (h.stored (i * 3 + j) (.int .i64 q)).1
  have hl : (twR.flat xs).length = xs.length * 3 := twR.flat_len xs
  have hset : ∀ x : Tw, (twR.cells xs[i]).set j (.int .i64 q) = twR.cells x → (twR.flat xs).set (i * 3 + j) (.int .i64 q) = twR.flat (xs.set i x) := by
    intro x hx
    have hk : twR.k = 3 := rfl
    rw [List.set_eq_take_append_cons_drop (l := xs), if_pos hi, twR.flat_append, twR.flat_cons, twR.flat_take, twR.flat_drop, hk, ← hx]
    have e0 : twR.flat xs = (twR.flat xs).take (i * 3) ++ (twR.cells xs[i] ++ (twR.flat xs).drop ((i + 1) * 3)) := by
      have h3 := twR.flat_take xs i
      have h4 := twR.flat_drop xs (i + 1)
      rw [hk] at h3 h4
      rw [← h3, ← h4, ← twR.flat_cons, ← twR.flat_append]
      congr 1
      rw [List.getElem_cons_drop, List.take_append_drop]
    have hlt : ((twR.flat xs).take (i * 3)).length = i * 3 := by rw [List.length_take]; omega
    conv => lhs; rw [e0]
    rw [List.set_append_right _ _ (by omega), hlt, Nat.add_sub_cancel_left, List.set_append_left _ _ (by rw [twR.len]; exact hj)]
  rcases (by omega : j = 0 ∨ j = 1 ∨ j = 2) with rfl | rfl | rfl
  · exact ⟨⟨q, xs[i].seq, xs[i].lefts⟩, by rw [← hset _ rfl]; exact h1⟩
  · exact ⟨⟨xs[i].due, q, xs[i].lefts⟩, by rw [← hset _ rfl]; exact h1⟩
  · exact ⟨⟨xs[i].due, xs[i].seq, q⟩, by rw [← hset _ rfl]; exact h1⟩

theorem drawn_set {w w5 w6 : World} {g c b d : Nat} {A : Option Addr} {xs : List Int} {v : Value} {h : List Tw} {i : Nat} {x : Tw} (hs : DrawSt w w5 g A c xs v h) (hg : g < w.heap.size) (hb : w.heap.size ≤ b)
    (ho : w6.ownsRow w.heap.size 77 3 (.slice (some ⟨b, 0, none⟩) h.length d) h.length (twR.flat (h.set i x))) (hk : Kept b (b + 1) w5 w6) :
    DrawnT g A c xs w (.returned (.slice (some ⟨b, 0, none⟩) h.length d)) w6 := by
  have hl : (h.set i x).length = h.length := by simp
  refine ⟨_, h.set i x, rfl, by rw [hl]; exact hs.len, ⟨_, _, by rw [hl], by rw [hl]; exact OwnZ.of_row ho⟩, ?_, ?_⟩
  · exact hs.cur.kept hk (.inr (by omega))
  · exact hs.kept.trans2 hk (.inr hb)

set_option maxHeartbeats 3200000 in
theorem drawAny_any (xs : List Int) (A : Option Addr) (c g : Nat) (base : Int) (w : World) (hc0 : Cur w g A c xs) :
    Calls Try.prog 49 #[.pointer (some ⟨g, 0, none⟩), .int .i64 base] w (DrawnT g A c xs w) := by
  have hg := hc0.lt
  have C0 := Lib.hid hc0
  clear hc0
  go_enter Try.func49, Try.ntmps49
  go_wp2_with fail
  with_reducible refine (drawH_any _ _ _ _ _ _ C0.out).mono ?_
  rintro e w1 ⟨v, h, rfl, hl, ho, hc, hk⟩
  have S1 : Hid (DrawSt w w1 g A c xs v h) := ⟨hl, ho, hc, hk⟩
  clear ho hc hk C0
  go_wp2_with fail
  with_reducible refine (once_any _ _ _ _ _ _ S1.out.cur (by omega) (by omega)).mono ?_
  rintro e w2 ⟨b, rfl, hc, hk⟩
  have S2 := Lib.hid (S1.out.draw hg hc hk)
  clear hc hk S1
  cases b with
  | false =>
    go_wp2
    go_ret
    exact ⟨_, h, rfl, S2.out.len, S2.out.own, S2.out.cur, S2.out.kept⟩
  | true =>
    by_cases h0 : 0 < h.length
    · obtain ⟨b, d, rfl, hb1, hb2, hrow⟩ := own_cells S2.out.own h0
      clear hrow
      have i0 : decide ((0 : Int) < (h.length : Int)) = true := by simpa using h0
      go_wp2_with fail
      with_reducible refine (below_any _ _ _ _ _ _ S2.out.cur (by omega) (by omega)).mono ?_
      rintro e w3 ⟨r, rfl, ⟨hr0, hr1⟩, hc, hk⟩
      have S3 := Lib.hid (S2.out.draw hg hc hk)
      clear hc hk S2
      obtain ⟨i, rfl⟩ := Int.eq_ofNat_of_zero_le hr0
      have hi : i < h.length := by omega
      go_wp2_with fail
      with_reducible refine (below_any _ _ _ _ _ _ S3.out.cur (by omega) (by omega)).mono ?_
      rintro e w4 ⟨r, rfl, ⟨hq0, hq1⟩, hc, hk⟩
      have S4 := Lib.hid (S3.out.draw hg hc hk)
      clear hc hk S3
      rcases (by omega : r = 0 ∨ r = 1 ∨ r = 2) with rfl | rfl | rfl
      · go_wp2_with fail
        with_reducible refine (below_any _ _ _ _ _ _ S4.out.cur (by omega) (by omega)).mono ?_
        rintro e w5 ⟨q, rfl, -, hc, hk⟩
        have S5 := Lib.hid (S4.out.draw hg hc hk)
        clear hc hk S4
        obtain ⟨b', d', e', hb1', hb2', hrow⟩ := own_cells S5.out.own h0
        injection e' with e1 e2 e3
        injection e1 with e1
        injection e1 with e1
        subst e1 e3
        have c0 : w5.cell? ⟨b, i * 3, none⟩ = some (.int .i64 h[i].due) := own_at (R := twR) hrow hi 0 rfl
        have f0 : w5.frozen? ⟨b, i * 3, none⟩ = false := hrow.frozenAt _
        obtain ⟨x, hset⟩ := own_set1 hrow hi 0 (by omega) q
        have HS := Lib.hid hset
        clear hset hrow
        go_wp2
        go_ret
        have kk : Kept b (b + 1) w5 (w5.setCell ⟨b, i * 3, none⟩ (.int .i64 q)) := (Kept.refl _ _ _).setCell (p := ⟨b, i * 3, none⟩) (.inr ⟨Nat.le_refl _, Nat.lt_succ_self _⟩) _
        exact drawn_set S5.out hg hb1 HS.out kk
      · go_wp2_with fail
        with_reducible refine (below_any _ _ _ _ _ _ S4.out.cur (by omega) (by omega)).mono ?_
        rintro e w5 ⟨q, rfl, -, hc, hk⟩
        have S5 := Lib.hid (S4.out.draw hg hc hk)
        clear hc hk S4
        obtain ⟨b', d', e', hb1', hb2', hrow⟩ := own_cells S5.out.own h0
        injection e' with e1 e2 e3
        injection e1 with e1
        injection e1 with e1
        subst e1 e3
        have c0 : w5.cell? ⟨b, i * 3 + 1, none⟩ = some (.int .i64 h[i].seq) := own_at (R := twR) hrow hi 1 rfl
        have f0 : w5.frozen? ⟨b, i * 3 + 1, none⟩ = false := hrow.frozenAt _
        obtain ⟨x, hset⟩ := own_set1 hrow hi 1 (by omega) q
        have HS := Lib.hid hset
        clear hset hrow
        go_wp2
        go_ret
        have kk : Kept b (b + 1) w5 (w5.setCell ⟨b, i * 3 + 1, none⟩ (.int .i64 q)) := (Kept.refl _ _ _).setCell (p := ⟨b, i * 3 + 1, none⟩) (.inr ⟨Nat.le_refl _, Nat.lt_succ_self _⟩) _
        exact drawn_set S5.out hg hb1 HS.out kk
      · go_wp2_with fail
        with_reducible refine (from_any _ _ _ _ _ _ _ S4.out.cur (by omega) (by omega) (by omega) (by omega)).mono ?_
        rintro e w5 ⟨q, rfl, -, hc, hk⟩
        have S5 := Lib.hid (S4.out.draw hg hc hk)
        clear hc hk S4
        obtain ⟨b', d', e', hb1', hb2', hrow⟩ := own_cells S5.out.own h0
        injection e' with e1 e2 e3
        injection e1 with e1
        injection e1 with e1
        subst e1 e3
        have c0 : w5.cell? ⟨b, i * 3 + 2, none⟩ = some (.int .i64 h[i].lefts) := own_at (R := twR) hrow hi 2 rfl
        have f0 : w5.frozen? ⟨b, i * 3 + 2, none⟩ = false := hrow.frozenAt _
        obtain ⟨x, hset⟩ := own_set1 hrow hi 2 (by omega) q
        have HS := Lib.hid hset
        clear hset hrow
        go_wp2
        go_ret
        have kk : Kept b (b + 1) w5 (w5.setCell ⟨b, i * 3 + 2, none⟩ (.int .i64 q)) := (Kept.refl _ _ _).setCell (p := ⟨b, i * 3 + 2, none⟩) (.inr ⟨Nat.le_refl _, Nat.lt_succ_self _⟩) _
        exact drawn_set S5.out hg hb1 HS.out kk
    · have i0 : decide ((0 : Int) < (h.length : Int)) = false := by simpa using h0
      obtain ⟨D, d, rfl, _⟩ := S2.out.own
      go_wp2
      go_ret
      exact ⟨_, h, rfl, S2.out.len, S2.out.own, S2.out.cur, S2.out.kept⟩
end Go.Proofs.Ytnphjohmkjoefaa
