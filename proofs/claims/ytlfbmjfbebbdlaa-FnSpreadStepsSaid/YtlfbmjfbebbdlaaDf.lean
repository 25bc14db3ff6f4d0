/- The draws of trees: each returns from 1 to 60 nodes in new memory and turns nothing old but the cursor; condition: the code can be read and has at most 4096 bytes. -/
import Derived.Test.YtlfbmjfbebbdlaaDe
namespace Go.Proofs.Ytlfbmjfbebbdlaa
open Go.RowKit Go.Sort

/-- The state of a draw under way: nodes of the call's own. -/
structure St5 (w wr : World) (g : Nat) (A : Option Addr) (c : Nat) (xs : List Int) (D : Option Addr) (d : Nat) (t : List Nd) : Prop where
  pos : 1 ≤ t.length
  len : t.length ≤ 60
  own : wr.ownsRow w.heap.size 59 ndR.k (.slice D t.length d) t.length (ndR.flat t)
  cur : Cur wr g A c xs
  kept : Kept g (g + 1) w wr
section
variable {w wr wr1 wr' : World} {g c d d' : Nat} {A D D' : Option Addr} {xs : List Int} {t : List Nd}
theorem St5.draw (hs : St5 w wr g A c xs D d t) (hg : g < w.heap.size) (hc : Cur wr' g A c xs) (hk : Kept g (g + 1) wr wr') : St5 w wr' g A c xs D d t :=
  ⟨hs.pos, hs.len, (OwnZ.kept (OwnZ.of_row hs.own) hk (by omega)).1, hc, hs.kept.trans hk⟩
theorem St5.app (hs : St5 w wr g A c xs D d t) (hg : g < w.heap.size) (k1 : Kept 0 0 wr wr1) (hl : t.length + 1 ≤ 60) (x : Nd)
    (hown : wr'.ownsRow w.heap.size 59 ndR.k (.slice D' (t ++ [x]).length d') (t ++ [x]).length (ndR.flat (t ++ [x]))) (hgrow : wr1.grownBy wr' (rowAt D)) : St5 w wr' g A c xs D' d' (t ++ [x]) := by
  have kk : Kept w.heap.size wr1.heap.size wr1 wr' := Kept.of_grown hgrow (fun k hk => by have := own_row_lo hs.own k hk; have := k1.size; omega)
  exact ⟨by simp, by simp; omega, hown, (hs.cur.kept k1 (.inl (Nat.le_refl _))).kept kk (.inr (by omega)), (hs.kept.trans (k1.wide (.inl (Nat.le_refl _)))).trans2 kk (.inr (Nat.le_refl _))⟩
theorem St5.ownNd (hs : St5 w wr g A c xs D d t) : OwnNd wr w.heap.size wr.heap.size (.slice D t.length d) t := ⟨D, d, rfl, OwnZ.of_row hs.own⟩
end
/-- What a draw of a tree leaves. -/
def DrawnT5 (g : Nat) (A : Option Addr) (c : Nat) (xs : List Int) (w : World) (e : Ending) (w' : World) : Prop :=
  ∃ (D : Option Addr) (d : Nat) (t : List Nd), e = .returned (.slice D t.length d) ∧ St5 w w' g A c xs D d t
abbrev rootNd : Nd := ⟨0, -1, 9223372036854775807, 0, 0⟩

set_option maxHeartbeats 6400000 in
theorem draw5_any (xs : List Int) (A : Option Addr) (c g : Nat) (w : World) (h : Cur w g A c xs) :
    Calls Try.prog 74 #[.pointer (some ⟨g, 0, none⟩)] w (DrawnT5 g A c xs w) := by
  have hg := h.lt
  have HT := Lib.hid ndSlice
  obtain ⟨W, hW⟩ : ∃ W, W = w.alloc (.cells #[.int .i64 0, .int .i64 (-1), .int .i64 9223372036854775807, .int .i64 0, .int .i64 0] 59) := ⟨_, rfl⟩
  have S0 : Hid (St5 w W g A c xs (some ⟨w.heap.size, 0, none⟩) 1 [rootNd]) := by
    refine ⟨by simp, by simp, ?_, ?_, ?_⟩
    · rw [hW]; exact own_litN w rootNd
    · rw [hW]; exact h.kept (Kept.alloc0 _ _) (.inl (Nat.le_refl _))
    · rw [hW]; exact (Kept.refl _ _ _).alloc _
  clear h
  go_enter Try.func74, Try.ntmps74
  go_wp2_with fail
  rw [← hW]
  clear hW
  with_reducible refine (below_any _ _ _ _ _ _ S0.out.cur (by omega) (by omega)).mono ?_
  rintro e w1 ⟨r, rfl, ⟨hr0, hr1⟩, hc, hk⟩
  have S1 := Lib.hid (S0.out.draw hg hc hk)
  clear hc hk S0
  obtain ⟨n, rfl⟩ := Int.eq_ofNat_of_zero_le hr0
  go_wp2_with fail
  go_loopw [3, 4] (fun v i wr => ∃ (m : Nat) (t : List Nd) (D : Option Addr) (d : Nat), v = .slice D t.length d ∧ i = .int .i64 m ∧ t.length + m ≤ 10 ∧ Hid (St5 w wr g A c xs D d t)) (fun _ i _ => (intOf i).toNat)
  case atStart => exact ⟨n + 1, [rootNd], _, _, rfl, by rw [show ((n + 1 : Nat) : Int) = 1 + (n : Int) from by omega], by simp; omega, S1⟩
  case round =>
    clear S1
    obtain ⟨m, t, D, d, rfl, rfl, hm, ST⟩ := hrel
    by_cases hm0 : 0 < m
    · have i1 : (0 : Int) < (m : Int) := by omega
      go_wp2_with fail
      with_reducible refine (once_any _ _ _ _ _ _ ST.out.cur (by omega) (by omega)).mono ?_
      rintro e w2 ⟨b, rfl, hc, hk⟩
      have S2 := Lib.hid (ST.out.draw hg hc hk)
      have z2 := S2.out.kept.size
      clear hc hk ST
      cases b with
      | true =>
        go_wp2_with (at_builtin; refine wpList_app (R := ndR) rfl (.tmp 17) (.tmp 19) rfl HT.out w.heap.size D d t rfl (row_kept S2.out.own (Kept.alloc0 _ _)) (w2.heap.size + 1) (some ⟨w2.heap.size, 0, none⟩) 1 [rootNd] rfl (rd_litN w2 rootNd) (by simp [maxLen]; omega) (by simp; omega) (by simp; omega) ?_; intro D2 d2 w3 hown hgrow hat; have S3 := Lib.hid (S2.out.app hg (Kept.alloc0 _ _) (by omega) rootNd hown hgrow); clear hown hgrow hat)
        go_roundw
        case rel => exact ⟨m - 1, t ++ [rootNd], D2, d2, by simp, by rw [show ((m - 1 : Nat) : Int) = (m : Int) - 1 from by omega], by simp; omega, S3⟩
        case measure => simp [intOf]; omega
      | false =>
        have p2 := S2.out.pos
        go_wp2_with fail
        with_reducible refine (drawNode_any _ _ _ _ _ _ S2.out.cur (by omega) (by omega)).mono ?_
        rintro e w3 ⟨x, rfl, hc, hk⟩
        have S3 := Lib.hid (S2.out.draw hg hc hk)
        have z3 := S3.out.kept.size
        clear hc hk S2
        go_wp2_with (at_builtin; refine wpList_app (R := ndR) rfl (.tmp 21) (.tmp 26) rfl HT.out w.heap.size D d t rfl (row_kept S3.out.own (Kept.alloc0 _ _)) (w3.heap.size + 1) (some ⟨w3.heap.size, 0, none⟩) 1 [x] rfl (rd_litN w3 x) (by simp [maxLen]; omega) (by simp; omega) (by simp; omega) ?_; intro D2 d2 w4 hown hgrow hat; have S4 := Lib.hid (S3.out.app hg (Kept.alloc0 _ _) (by omega) x hown hgrow); clear hown hgrow hat)
        go_roundw
        case rel => exact ⟨m - 1, t ++ [x], D2, d2, by simp, by rw [show ((m - 1 : Nat) : Int) = (m : Int) - 1 from by omega], by simp; omega, S4⟩
        case measure => simp [intOf]; omega
    · have i1 : ¬ (0 : Int) < (m : Int) := by omega
      go_wp2_with fail
      with_reducible refine (once_any _ _ _ _ _ _ ST.out.cur (by omega) (by omega)).mono ?_
      rintro e w2 ⟨b, rfl, hc, hk⟩
      have S2 := Lib.hid (ST.out.draw hg hc hk)
      clear hc hk ST
      cases b with
      | false =>
        go_wp2
        go_ret
        exact ⟨D, d, t, rfl, S2.out⟩
      | true =>
        go_wp2_with fail
        with_reducible refine (below_any _ _ _ _ _ _ S2.out.cur (by omega) (by omega)).mono ?_
        rintro e w3 ⟨r, rfl, ⟨hr0', hr1'⟩, hc, hk⟩
        have S3 := Lib.hid (S2.out.draw hg hc hk)
        clear hc hk S2
        obtain ⟨q, rfl⟩ := Int.eq_ofNat_of_zero_le hr0'
        go_wp2_with fail
        go_loopw [3, 5] (fun v i wr => ∃ (m : Nat) (t : List Nd) (D : Option Addr) (d : Nat), v = .slice D t.length d ∧ i = .int .i64 m ∧ t.length + m ≤ 60 ∧ Hid (St5 w wr g A c xs D d t)) (fun _ i _ => (intOf i).toNat)
        case atStart => exact ⟨60 - t.length - q, t, D, d, rfl, by rw [show ((60 - t.length - q : Nat) : Int) = 60 - (t.length : Int) - (q : Int) from by omega], by omega, S3⟩
        case round =>
          clear S3
          obtain ⟨m, t, D, d, rfl, rfl, hm, ST⟩ := hrel
          by_cases hm0 : 0 < m
          · have i1 : (0 : Int) < (m : Int) := by omega
            have p2 := ST.out.pos
            go_wp2_with fail
            with_reducible refine (drawNode_any _ _ _ _ _ _ ST.out.cur (by omega) (by omega)).mono ?_
            rintro e w3 ⟨x, rfl, hc, hk⟩
            have S3 := Lib.hid (ST.out.draw hg hc hk)
            have z3 := S3.out.kept.size
            clear hc hk ST
            go_wp2_with (at_builtin; refine wpList_app (R := ndR) rfl (.tmp 40) (.tmp 45) rfl HT.out w.heap.size D d t rfl (row_kept S3.out.own (Kept.alloc0 _ _)) (w3.heap.size + 1) (some ⟨w3.heap.size, 0, none⟩) 1 [x] rfl (rd_litN w3 x) (by simp [maxLen]; omega) (by simp; omega) (by simp; omega) ?_; intro D2 d2 w4 hown hgrow hat; have S4 := Lib.hid (S3.out.app hg (Kept.alloc0 _ _) (by omega) x hown hgrow); clear hown hgrow hat)
            go_roundw
            case rel => exact ⟨m - 1, t ++ [x], D2, d2, by simp, by rw [show ((m - 1 : Nat) : Int) = (m : Int) - 1 from by omega], by simp; omega, S4⟩
            case measure => simp [intOf]; omega
          · have i1 : ¬ (0 : Int) < (m : Int) := by omega
            go_wp2
            go_ret
            exact ⟨D, d, t, rfl, ST.out⟩

theorem st5_put {w wr : World} {g c b d : Nat} {A : Option Addr} {xs : List Int} {t : List Nd} {i : Nat} (hs : St5 w wr g A c xs (some ⟨b, 0, none⟩) d t) (hg : g < w.heap.size) (hi : i < t.length) (x : Nd) :
    St5 w (((((wr.setCell ⟨b, i * 5, none⟩ (.int .i64 x.kind)).setCell ⟨b, i * 5 + 1, none⟩ (.int .i64 x.up)).setCell ⟨b, i * 5 + 2, none⟩ (.int .i64 x.due)).setCell ⟨b, i * 5 + 3, none⟩ (.int .i64 x.key)).setCell ⟨b, i * 5 + 4, none⟩ (.int .i64 x.value)) g A c xs (some ⟨b, 0, none⟩) d (t.set i x) := by
  have hb := (own_row_lo hs.own b rfl).1
  have s : ∀ {V : World} (i : Nat) (v : Value), Kept b (b + 1) wr V → Kept b (b + 1) wr (V.setCell ⟨b, i, none⟩ v) := fun i v k => Kept.setCell k (p := ⟨b, i, none⟩) (.inr ⟨Nat.le_refl _, Nat.lt_succ_self _⟩) v
  have k := s (i * 5 + 4) (.int .i64 x.value) (s (i * 5 + 3) (.int .i64 x.key) (s (i * 5 + 2) (.int .i64 x.due) (s (i * 5 + 1) (.int .i64 x.up) (s (i * 5) (.int .i64 x.kind) (Kept.refl _ _ wr)))))
  exact ⟨by simpa using hs.pos, by simpa using hs.len, by rw [List.length_set]; exact own_putNd hs.own hi x, hs.cur.kept k (.inr (by omega)), hs.kept.trans2 k (.inr hb)⟩

set_option maxHeartbeats 6400000 in
theorem drawAny5_any (xs : List Int) (A : Option Addr) (c g : Nat) (w : World) (h : Cur w g A c xs) :
    Calls Try.prog 59 #[.pointer (some ⟨g, 0, none⟩)] w (DrawnT5 g A c xs w) := by
  have hg := h.lt
  have H := Lib.hid h
  clear h
  go_enter Try.func59, Try.ntmps59
  go_wp2_with fail
  with_reducible refine (draw5_any _ _ _ _ _ H.out).mono ?_
  rintro e w1 ⟨D, d, t, rfl, s1⟩
  have S1 := Lib.hid s1
  clear s1 H
  go_wp2_with fail
  with_reducible refine (once_any _ _ _ _ _ _ S1.out.cur (by omega) (by omega)).mono ?_
  rintro e w2 ⟨b, rfl, hc, hk⟩
  have S2 := Lib.hid (S1.out.draw hg hc hk)
  clear hc hk S1
  cases b with
  | false =>
    go_wp2
    go_ret
    exact ⟨D, d, t, rfl, S2.out⟩
  | true =>
    have p2 := S2.out.pos
    have l2 := S2.out.len
    go_wp2_with fail
    with_reducible refine (below_any _ _ _ _ _ _ S2.out.cur (by omega) (by omega)).mono ?_
    rintro e w3 ⟨r, rfl, ⟨hr0, hr1⟩, hc, hk⟩
    have S3 := Lib.hid (S2.out.draw hg hc hk)
    clear hc hk S2
    obtain ⟨i, rfl⟩ := Int.eq_ofNat_of_zero_le hr0
    have hi : i < t.length := by omega
    obtain ⟨bl, rfl, hlo, _, _⟩ : ∃ bl, D = some ⟨bl, 0, none⟩ ∧ w.heap.size ≤ bl ∧ bl < w3.heap.size ∧ bl < w3.heap.size := by
      rcases (OwnZ.of_row S3.out.own).form with ⟨_, h0, _⟩ | ⟨bl, h1, h2, h3, h4⟩
      · exfalso; omega
      · exact ⟨bl, h1, h2, h3, h4⟩
    have c0 : w3.cell? ⟨bl, i * 5, none⟩ = some (.int .i64 t[i].kind) := own_at (R := ndR) S3.out.own hi 0 rfl
    have c1 : w3.cell? ⟨bl, i * 5 + 1, none⟩ = some (.int .i64 t[i].up) := own_at (R := ndR) S3.out.own hi 1 rfl
    have c2 : w3.cell? ⟨bl, i * 5 + 2, none⟩ = some (.int .i64 t[i].due) := own_at (R := ndR) S3.out.own hi 2 rfl
    have c3 : w3.cell? ⟨bl, i * 5 + 3, none⟩ = some (.int .i64 t[i].key) := own_at (R := ndR) S3.out.own hi 3 rfl
    have c4 : w3.cell? ⟨bl, i * 5 + 4, none⟩ = some (.int .i64 t[i].value) := own_at (R := ndR) S3.out.own hi 4 rfl
    go_wp2_with fail
    with_reducible refine (bend_any _ _ _ _ _ _ S3.out.cur).mono ?_
    rintro e w4 ⟨x, rfl, hc, hk⟩
    have S4 := Lib.hid (S3.out.draw hg hc hk)
    clear hc hk S3 c0 c1 c2 c3 c4
    have c0 : w4.cell? ⟨bl, i * 5, none⟩ = some (.int .i64 t[i].kind) := own_at (R := ndR) S4.out.own hi 0 rfl
    have c1 : w4.cell? ⟨bl, i * 5 + 1, none⟩ = some (.int .i64 t[i].up) := own_at (R := ndR) S4.out.own hi 1 rfl
    have c2 : w4.cell? ⟨bl, i * 5 + 2, none⟩ = some (.int .i64 t[i].due) := own_at (R := ndR) S4.out.own hi 2 rfl
    have c3 : w4.cell? ⟨bl, i * 5 + 3, none⟩ = some (.int .i64 t[i].key) := own_at (R := ndR) S4.out.own hi 3 rfl
    have c4 : w4.cell? ⟨bl, i * 5 + 4, none⟩ = some (.int .i64 t[i].value) := own_at (R := ndR) S4.out.own hi 4 rfl
    have f0 : w4.frozen? ⟨bl, i * 5, none⟩ = false := S4.out.own.frozenAt _
    have f1 : w4.frozen? ⟨bl, i * 5 + 1, none⟩ = false := S4.out.own.frozenAt _
    have f2 : w4.frozen? ⟨bl, i * 5 + 2, none⟩ = false := S4.out.own.frozenAt _
    have f3 : w4.frozen? ⟨bl, i * 5 + 3, none⟩ = false := S4.out.own.frozenAt _
    have f4 : w4.frozen? ⟨bl, i * 5 + 4, none⟩ = false := S4.out.own.frozenAt _
    have S5 := Lib.hid (st5_put S4.out hg hi x)
    clear S4
    go_wp2
    go_ret
    exact ⟨_, _, _, by rw [List.length_set]; rfl, S5.out⟩

theorem St5.same {w wr wr' : World} {g c d : Nat} {A D : Option Addr} {xs : List Int} {t : List Nd} (hs : St5 w wr g A c xs D d t) (hk : Kept 0 0 wr wr') : St5 w wr' g A c xs D d t :=
  ⟨hs.pos, hs.len, row_kept hs.own hk, hs.cur.kept hk (.inl (Nat.le_refl _)), hs.kept.trans (hk.wide (.inl (Nat.le_refl _)))⟩
theorem blk3_cell {w : World} {b : Nat} {n o : Int} (h : Blk w b 2 #[.int .i64 (-1), .int .i64 n, .int .i64 o]) (k : Nat) (hk : k < 3) : ∃ q : Int, w.cell? ⟨b, k, none⟩ = some (.int .i64 q) := by
  rcases (by omega : k = 0 ∨ k = 1 ∨ k = 2) with rfl | rfl | rfl
  · exact ⟨_, h.cell 0⟩
  · exact ⟨_, h.cell 1⟩
  · exact ⟨_, h.cell 2⟩
theorem lit3_cell (w : World) (n o : Int) (k : Nat) (hk : k < 3) : ∃ q : Int, (w.alloc (.cells #[.int .i64 (-1), .int .i64 n, .int .i64 o] 2)).cell? ⟨w.heap.size, k, none⟩ = some (.int .i64 q) := blk3_cell (Blk.new _ _ _) k hk
theorem lit3_kept {w w' : World} {n o : Int} {g : Nat} (hk : Kept g (g + 1) (w.alloc (.cells #[.int .i64 (-1), .int .i64 n, .int .i64 o] 2)) w') (hg : g < w.heap.size) (k : Nat) (hk3 : k < 3) : ∃ q : Int, w'.cell? ⟨w.heap.size, k, none⟩ = some (.int .i64 q) := blk3_cell ((Blk.new _ _ _).kept hk (by omega)) k hk3
/-- What a draw of a tree and a number leaves. -/
def DrawnTN (g : Nat) (A : Option Addr) (c : Nat) (xs : List Int) (w : World) (e : Ending) (w' : World) : Prop :=
  ∃ (D : Option Addr) (d : Nat) (t : List Nd) (n : Int), e = .returned (.tuple #[.slice D t.length d, .int .i64 n]) ∧ St5 w w' g A c xs D d t
set_option maxHeartbeats 6400000 in
theorem drawAt5_any (xs : List Int) (A : Option Addr) (c g : Nat) (w : World) (h : Cur w g A c xs) :
    Calls Try.prog 33 #[.pointer (some ⟨g, 0, none⟩)] w (DrawnTN g A c xs w) := by
  have hg := h.lt
  have H := Lib.hid h
  clear h
  go_enter Try.func33, Try.ntmps33
  go_wp2_with fail
  with_reducible refine (drawAny5_any _ _ _ _ _ H.out).mono ?_
  rintro e w1 ⟨D, d, t, rfl, s1⟩
  have S1 := Lib.hid s1
  clear s1 H
  go_wp2_with fail
  with_reducible refine (once_any _ _ _ _ _ _ S1.out.cur (by omega) (by omega)).mono ?_
  rintro e w2 ⟨b, rfl, hc, hk⟩
  have S2 := Lib.hid (S1.out.draw hg hc hk)
  clear hc hk S1
  have p2 := S2.out.pos
  have l2 := S2.out.len
  cases b with
  | false =>
    go_wp2_with fail
    with_reducible refine (below_any _ _ _ _ _ _ S2.out.cur (by omega) (by omega)).mono ?_
    rintro e w3 ⟨r, rfl, -, hc, hk⟩
    have S3 := Lib.hid (S2.out.draw hg hc hk)
    clear hc hk S2
    go_wp2
    go_ret2
    exact ⟨_, _, _, _, rfl, S3.out⟩
  | true =>
    go_upto_region 3 with fail
    go_region_with (first
      | (go_at_call 61; refine (odd_any xs A c g w2.drew (S2.out.cur.kept ((Kept.refl 0 0 w2).drew) (.inl (Nat.le_refl _)))).mono ?_; rintro e w3 ⟨o, rfl, -, hc, hk⟩; have S3 := Lib.hid (S2.out.draw hg hc ((Kept.refl _ _ _).drew.trans hk)); clear hc hk)
      | (go_at_call 62; refine (below_any xs A c g 3 w3 S3.out.cur (by omega) (by omega)).mono ?_; rintro e w4 ⟨r, rfl, ⟨hr0, hr1⟩, hc, hk⟩; have S4 := Lib.hid ((S3.out.draw hg hc hk).same (Kept.alloc0 w4 (.cells #[.int .i64 (-1), .int .i64 t.length, .int .i64 o] 2))); obtain ⟨k, rfl⟩ := Int.eq_ofNat_of_zero_le hr0; obtain ⟨q, hq⟩ := lit3_cell w4 t.length o k (by omega); clear hc hk)
      | (go_at_call 62; refine (below_any xs A c g 3 (w3.alloc (.cells #[.int .i64 (-1), .int .i64 t.length, .int .i64 o] 2)) (S3.out.cur.kept (Kept.alloc0 _ _) (.inl (Nat.le_refl _))) (by omega) (by omega)).mono ?_; rintro e w4 ⟨r, rfl, ⟨hr0, hr1⟩, hc, hk⟩; have S4 := Lib.hid ((S3.out.same (Kept.alloc0 w3 (.cells #[.int .i64 (-1), .int .i64 t.length, .int .i64 o] 2))).draw hg hc hk); obtain ⟨k, rfl⟩ := Int.eq_ofNat_of_zero_le hr0; obtain ⟨q, hq⟩ := lit3_kept hk (by have := S3.out.kept.size; omega) k (by omega); clear hc hk))
    all_goals
      clear S2 S3
      go_wp2
      go_ret2
      exact ⟨_, _, _, _, rfl, S4.out⟩

/-- What a draw of a tree and a number from a code leaves. -/
def DrawnC (w : World) (e : Ending) (w' : World) : Prop :=
  ∃ (v : Value) (t : List Nd) (n : Int), e = .returned (.tuple #[v, .int .i64 n]) ∧ t.length ≤ 60 ∧ OwnNd w' w.heap.size w'.heap.size v t ∧ Kept 0 0 w w'
set_option maxHeartbeats 800000 in
theorem drawChainOf_any (xs : List Int) (A : Option Addr) (c : Nat) (w : World) (h : Rd (Value.int .u8) w w.heap.size A xs) (hx : ∀ x ∈ xs, 0 ≤ x ∧ x ≤ 255) (hl : xs.length ≤ 4096) :
    Calls Try.prog 10 #[.slice A xs.length c] w (DrawnC w) := by
  have H := Lib.hid h
  have HX := Lib.hid hx
  clear h hx
  go_enter Try.func10, Try.ntmps10
  go_wp2_with fail
  with_reducible refine (new_any _ _ _ _ H.out HX.out hl).mono ?_
  rintro e w1 ⟨rfl, hc, hk⟩
  have C1 := Lib.hid hc
  have K1 := Lib.hid hk
  clear hc hk
  go_wp2_with fail
  with_reducible refine (drawAt5_any _ _ _ _ _ C1.out).mono ?_
  rintro e w2 ⟨D, d, t, n, rfl, s2⟩
  have S2 := Lib.hid s2
  clear s2 C1
  go_wp2
  go_ret2
  exact ⟨_, t, n, rfl, S2.out.len, S2.out.ownNd.wide K1.out.size (Nat.le_refl _), K1.out.trans2 S2.out.kept (.inr (Nat.le_refl _))⟩
/-- What a draw of a tree and two numbers from a code leaves. -/
def DrawnC2 (w : World) (e : Ending) (w' : World) : Prop :=
  ∃ (v : Value) (t : List Nd) (n k : Int), e = .returned (.tuple #[v, .int .i64 n, .int .i64 k]) ∧ t.length ≤ 60 ∧ 0 ≤ k ∧ k ≤ 4 ∧ OwnNd w' w.heap.size w'.heap.size v t ∧ Kept 0 0 w w'
end Go.Proofs.Ytlfbmjfbebbdlaa
