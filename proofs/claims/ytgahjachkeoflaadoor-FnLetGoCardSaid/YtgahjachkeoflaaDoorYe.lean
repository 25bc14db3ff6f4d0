/- The draw of a tree with a list of events; it turns nothing old but the cursor; condition: the code can be read and has at most 4096 bytes. -/
import Derived.Test.YtgahjachkeoflaaDoorYd
namespace Go.Proofs.YtgahjachkeoflaaDoor
open Go.RowKit Go.Sort

/-- A tree and a list of events, each in memory of the call's own. -/
structure St6 (w wr : World) (g : Nat) (A : Option Addr) (c : Nat) (xs : List Int) (vt vl : Value) (t : List Nd) (l : List Ev) : Prop where
  pos : 1 ≤ t.length
  tlen : t.length ≤ 60
  llen : l.length ≤ 62
  tree : OwnNd wr w.heap.size wr.heap.size vt t
  list : OwnEv wr w.heap.size wr.heap.size vl l
  cur : Cur wr g A c xs
  kept : Kept g (g + 1) w wr
section
variable {w wr wr' : World} {g c : Nat} {A : Option Addr} {xs : List Int} {vt vl : Value} {t : List Nd} {l : List Ev}
theorem St6.draw (h : St6 w wr g A c xs vt vl t l) (hg : g < w.heap.size) (hc : Cur wr' g A c xs) (hk : Kept g (g + 1) wr wr') : St6 w wr' g A c xs vt vl t l :=
  ⟨h.pos, h.tlen, h.llen, (h.tree.kept hk (by omega)).wide (Nat.le_refl _) hk.size, (h.list.kept hk (by omega)).wide (Nat.le_refl _) hk.size, hc, h.kept.trans hk⟩
end
/-- One field of one element. -/
theorem flat_field {α : Type} {R : Rec α} {xs : List α} {i j : Nat} (hi : i < xs.length) (hj : j < R.k) {u : Value} {y : α} (hy : R.cells y = (R.cells xs[i]).set j u) : (R.flat xs).set (i * R.k + j) u = R.flat (xs.set i y) := by
  apply List.ext_getElem?
  intro m
  have hk := R.pos
  have e : m = m / R.k * R.k + m % R.k := by rw [Nat.mul_comm]; exact (Nat.div_add_mod m R.k).symm
  have hm := Nat.mod_lt m hk
  by_cases hlt : m / R.k < xs.length
  · have hf := R.flat_at (xs.set i y) (m / R.k) (by simpa using hlt) (m % R.k) hm
    have hg := R.flat_at xs (m / R.k) hlt (m % R.k) hm
    rw [← e] at hf hg
    rw [hf, List.getElem?_set]
    by_cases hd : m / R.k = i
    · subst hd
      rw [List.getElem_set_self, hy, List.getElem?_set]
      by_cases hjm : j = m % R.k
      · have hlen : m < (R.flat xs).length := by
          rw [R.flat_len]
          have h3 : (m / R.k + 1) * R.k ≤ xs.length * R.k := Nat.mul_le_mul_right _ hlt
          have h4 : (m / R.k + 1) * R.k = m / R.k * R.k + R.k := Nat.succ_mul _ _
          omega
        have h2 : m % R.k < (R.cells xs[m / R.k]).length := by rw [R.len]; exact hm
        have e1 : m / R.k * R.k + j = m := by rw [hjm]; exact e.symm
        rw [if_pos e1, if_pos hjm, e1, if_pos hlen, if_pos (by rw [hjm]; exact h2)]
      · have e1 : ¬ (m / R.k * R.k + j = m) := fun h => hjm (by omega)
        rw [if_neg e1, if_neg hjm, hg]
    · have e1 : ¬ (i * R.k + j = m) := by
        intro h
        apply hd
        rw [← h, Nat.mul_comm, Nat.mul_add_div hk, Nat.div_eq_of_lt hj, Nat.add_zero]
      rw [if_neg e1, List.getElem_set_ne (fun h => hd h.symm), hg]
  · have h1 : xs.length * R.k ≤ m := by
      have := Nat.mul_le_mul_right R.k (Nat.le_of_not_lt hlt)
      omega
    have e1 : (R.flat (xs.set i y))[m]? = none := List.getElem?_eq_none (by rw [R.flat_len]; simpa using h1)
    have e2 : ((R.flat xs).set (i * R.k + j) u)[m]? = none := List.getElem?_eq_none (by rw [List.length_set, R.flat_len]; exact h1)
    rw [e1, e2]
theorem OwnEv.first {w : World} {lo hi : Nat} {v : Value} {l : List Ev} (h : OwnEv w lo hi v l) (hn : 0 < l.length) : ∃ b d, v = .slice (some ⟨b, 0, none⟩) l.length d ∧ lo ≤ b ∧ OwnZ w lo hi 27 4 (some ⟨b, 0, none⟩) l.length d (evR.flat l) := by
  obtain ⟨D, d, rfl, o⟩ := h
  rcases o.form with ⟨_, h0, _⟩ | ⟨b, rfl, h1, _⟩
  · exfalso; omega
  · exact ⟨b, d, rfl, h1, o⟩
theorem OwnNd.beside {w w' : World} {lo hi : Nat} {v : Value} {t : List Nd} (h : OwnNd w lo hi v t) {b ty : Nat} {cs : Array Value} (hb : Blk w b ty cs) (hne : 80 ≠ ty) (hk : Kept b (b + 1) w w') : OwnNd w' lo hi v t := by
  obtain ⟨D, d, e, o⟩ := h
  exact ⟨D, d, e, row_other o.1 (row_ne o.1 hb hne) hk, o.2⟩
theorem St6.field {w wr : World} {g c b d : Nat} {A : Option Addr} {xs : List Int} {vt : Value} {t : List Nd} {l : List Ev} (h : St6 w wr g A c xs vt (.slice (some ⟨b, 0, none⟩) l.length d) t l) (hg : g < w.heap.size) {i j : Nat} (hi : i < l.length) (hj : j < 4) (q : Int) (y : Ev) (hy : evR.cells y = (evR.cells l[i]).set j (.int .i64 q)) :
    St6 w (wr.setCell ⟨b, i * 4 + j, none⟩ (.int .i64 q)) g A c xs vt (.slice (some ⟨b, 0, none⟩) l.length d) t (l.set i y) := by
  obtain ⟨D, d', e, o⟩ := h.list
  injection e with e1 _ e2
  subst e1 e2
  have hb := (own_row_lo o.1 b rfl).1
  obtain ⟨cs, hB⟩ := row_blk o.1 (b := b) rfl
  have k : Kept b (b + 1) wr (wr.setCell ⟨b, i * 4 + j, none⟩ (.int .i64 q)) := Kept.setCell (Kept.refl b (b + 1) wr) (p := ⟨b, i * 4 + j, none⟩) (.inr ⟨Nat.le_refl _, Nat.lt_succ_self _⟩) _
  have o2 := (o.1.stored (i * 4 + j) (.int .i64 q)).1
  rw [show i * 4 + j = i * evR.k + j from rfl, flat_field (R := evR) hi hj hy] at o2
  refine ⟨h.pos, h.tlen, by simpa using h.llen, (h.tree.beside hB (by decide) k).wide (Nat.le_refl _) k.size, ⟨some ⟨b, 0, none⟩, d, by rw [List.length_set], ?_⟩, h.cur.kept k (.inr (by omega)), h.kept.trans2 k (.inr hb)⟩
  rw [List.length_set]
  exact (OwnZ.of_row o2).wide (Nat.le_refl _) (Nat.le_refl _)
/-- What a draw of a tree with a list leaves. -/
def DrawnTL (g : Nat) (A : Option Addr) (c : Nat) (xs : List Int) (w : World) (e : Ending) (w' : World) : Prop :=
  ∃ (vt vl : Value) (t : List Nd) (l : List Ev), e = .returned (.tuple #[vt, vl]) ∧ St6 w w' g A c xs vt vl t l

set_option maxHeartbeats 6400000 in
set_option maxRecDepth 100000 in
theorem drawAny6_any (xs : List Int) (A : Option Addr) (c g : Nat) (w : World) (h : Cur w g A c xs) :
    Calls Tryd.prog 42 #[.pointer (some ⟨g, 0, none⟩)] w (DrawnTL g A c xs w) := by
  have gl := h.lt
  have H := Lib.hid h
  have HE := Lib.hid evSlice
  clear h
  go_enter Tryd.func42, Tryd.ntmps42
  go_wp2_with fail
  with_reducible refine (drawAny5_any _ _ _ _ _ H.out).mono ?_
  rintro e w1 ⟨D, d, t, rfl, s1⟩
  obtain ⟨W, hW⟩ : ∃ W, W = w1.alloc (.cells #[] 27) := ⟨_, rfl⟩
  have kW : Kept 0 0 w1 W := by rw [hW]; exact Kept.alloc0 _ _
  have z1 := s1.kept.size
  have zW : w1.heap.size < W.heap.size := by rw [hW]; simp
  have BW : Blk W w1.heap.size 27 #[] := by rw [hW]; exact Blk.new _ _ _
  obtain ⟨vt, hvt⟩ : ∃ vt, vt = Value.slice D t.length d := ⟨_, rfl⟩
  have S1 : Hid (St6 w W g A c xs vt (.slice (some ⟨w1.heap.size, 0, none⟩) 0 0) t []) := by
    rw [hvt]
    exact ⟨s1.pos, s1.len, by simp, (s1.ownNd.kept kW (.inl (Nat.le_refl _))).wide (Nat.le_refl _) kW.size, ⟨_, 0, rfl, OwnZ.mk_ (own_emptyZ BW (by omega)) BW.lt⟩, s1.cur.kept kW (.inl (Nat.le_refl _)), s1.kept.trans (kW.wide (.inl (Nat.le_refl _)))⟩
  have TR := Lib.hid (s1.ownNd.kept kW (.inl (Nat.le_refl _)))
  have HW := Lib.hid hW
  have HVT := Lib.hid hvt
  clear s1 H kW hW BW
  have tl : t.length ≤ 60 := S1.out.tlen
  rw [← hvt]
  clear hvt
  go_wp2_with fail
  rw [← HW.out]
  with_reducible refine (tree5_any t vt W (S1.out.tree.rdW (Nat.le_refl _))).mono ?_
  rintro e w2 ⟨rfl, hk⟩
  have S2 : Hid (St6 w w2 g A c xs vt (.slice (some ⟨w1.heap.size, 0, none⟩) 0 0) t []) := S1.out.draw gl (S1.out.cur.kept hk (.inl (Nat.le_refl _))) (hk.wide (.inl (Nat.le_refl _)))
  have z2 := hk.size
  clear hk S1 HW
  cases q1 : treeB t
  · clear q1
    go_wp2_with fail
    with_reducible refine (once_any _ _ _ _ _ _ S2.out.cur (by omega) (by omega)).mono ?_
    rintro e w3 ⟨b, rfl, hc, hk⟩
    have S3 := Lib.hid (S2.out.draw gl hc hk)
    clear hc hk S2
    cases b with
    | false =>
      go_wp2
      go_ret2
      exact ⟨_, _, _, _, rfl, S3.out⟩
    | true =>
      go_wp2
      go_ret2
      exact ⟨_, _, _, _, rfl, S3.out⟩
  clear q1
  go_wp2_with fail
  with_reducible refine (drawList_any xs A c g t vt w.heap.size w2.heap.size w2 S2.out.cur S2.out.tree gl (Nat.le_refl _) S2.out.pos tl).mono ?_
  rintro e w3 ⟨vl, l, rfl, ho, hl, hc, hk⟩
  have S3 : Hid (St6 w w3 g A c xs vt vl t l) := ⟨S2.out.pos, tl, by omega, (S2.out.tree.kept hk (by omega)).wide (Nat.le_refl _) hk.size, ho.wide (by omega) (Nat.le_refl _), hc, S2.out.kept.trans hk⟩
  clear ho hc hk S2
  go_wp2_with fail
  with_reducible refine (once_any _ _ _ _ _ _ S3.out.cur (by omega) (by omega)).mono ?_
  rintro e w4 ⟨b, rfl, hc, hk⟩
  have S4 := Lib.hid (S3.out.draw gl hc hk)
  clear hc hk S3
  cases b with
  | false =>
    go_wp2
    go_ret2
    exact ⟨_, _, _, _, rfl, S4.out⟩
  | true =>
    by_cases hl0 : 0 < l.length
    case neg =>
      obtain ⟨B, d2, rfl, hb⟩ := S4.out.list
      have g1 : ¬ (0 : Int) < (l.length : Int) := by omega
      clear hb
      go_wp2
      go_ret2
      exact ⟨_, _, _, _, rfl, S4.out⟩
    case pos =>
    obtain ⟨b, d2, rfl, hb1, -⟩ := S4.out.list.first hl0
    have g1 : (0 : Int) < (l.length : Int) := by omega
    go_wp2_with fail
    with_reducible refine (below_any _ _ _ _ _ _ S4.out.cur (by omega) (by omega)).mono ?_
    rintro e w5 ⟨r, rfl, ⟨hr0, hr1⟩, hc, hk⟩
    have S5 := Lib.hid (S4.out.draw gl hc hk)
    clear hc hk S4
    obtain ⟨i, rfl⟩ := Int.eq_ofNat_of_zero_le hr0
    have hi : i < l.length := by omega
    go_wp2_with fail
    with_reducible refine (below_any _ _ _ _ _ _ S5.out.cur (by omega) (by omega)).mono ?_
    rintro e w6 ⟨r, rfl, ⟨hr0, hr1⟩, hc, hk⟩
    have S6 := Lib.hid (S5.out.draw gl hc hk)
    clear hc hk S5
    have hr : r = 0 ∨ r = 1 ∨ r = 2 ∨ r = 3 ∨ r = 4 := by omega
    clear hr0 hr1
    rcases hr with rfl | rfl | rfl | rfl | rfl
    · obtain rfl := HVT.out
      obtain ⟨B7, d7, e7, o7⟩ := S6.out.list
      injection e7 with e7 _ e8
      subst e7 e8
      have c0 : w6.cell? ⟨b, i * 4, none⟩ = some (.int .i64 l[i].node) := own_at (R := evR) o7.1 hi 0 rfl
      clear o7
      have i1 : (i : Int) < (l.length : Int) := by omega
      go_wp2_with fail
      with_reducible refine (from_any _ _ _ _ _ _ _ S6.out.cur (by omega) (by omega) (by omega) (by omega)).mono ?_
      rintro e w7 ⟨q, rfl, -, hc, hk⟩
      have S7 := Lib.hid (S6.out.draw gl hc hk)
      clear hc hk S6 c0
      obtain ⟨B7, d7, e7, o7⟩ := S7.out.list
      injection e7 with e7 _ e8
      subst e7 e8
      have c0 : w7.cell? ⟨b, i * 4, none⟩ = some (.int .i64 l[i].node) := own_at (R := evR) o7.1 hi 0 rfl
      have f0 : w7.frozen? ⟨b, i * 4, none⟩ = false := o7.1.frozenAt _
      have S8 := Lib.hid (S7.out.field gl hi (j := 0) (by decide) q ⟨q, l[i].err, l[i].cause, l[i].time⟩ rfl)
      clear o7
      go_wp2
      go_ret2
      exact ⟨_, _, _, _, rfl, S8.out⟩
    · obtain ⟨B7, d7, e7, o7⟩ := S6.out.list
      injection e7 with e7 _ e8
      subst e7 e8
      have c1 : w6.cell? ⟨b, i * 4 + 1, none⟩ = some (.int .i64 l[i].err) := own_at (R := evR) o7.1 hi 1 rfl
      clear o7
      have i1 : (i : Int) < (l.length : Int) := by omega
      go_wp2_with fail
      with_reducible refine (from_any _ _ _ _ _ _ _ S6.out.cur (by omega) (by omega) (by omega) (by omega)).mono ?_
      rintro e w7 ⟨q, rfl, -, hc, hk⟩
      have S7 := Lib.hid (S6.out.draw gl hc hk)
      clear hc hk S6 c1
      obtain ⟨B7, d7, e7, o7⟩ := S7.out.list
      injection e7 with e7 _ e8
      subst e7 e8
      have c1 : w7.cell? ⟨b, i * 4 + 1, none⟩ = some (.int .i64 l[i].err) := own_at (R := evR) o7.1 hi 1 rfl
      have f1 : w7.frozen? ⟨b, i * 4 + 1, none⟩ = false := o7.1.frozenAt _
      have S8 := Lib.hid (S7.out.field gl hi (j := 1) (by decide) q ⟨l[i].node, q, l[i].cause, l[i].time⟩ rfl)
      clear o7
      go_wp2
      go_ret2
      exact ⟨_, _, _, _, rfl, S8.out⟩
    · obtain ⟨B7, d7, e7, o7⟩ := S6.out.list
      injection e7 with e7 _ e8
      subst e7 e8
      have c2 : w6.cell? ⟨b, i * 4 + 2, none⟩ = some (.int .i64 l[i].cause) := own_at (R := evR) o7.1 hi 2 rfl
      clear o7
      have i1 : (i : Int) < (l.length : Int) := by omega
      go_wp2_with fail
      with_reducible refine (num_any _ _ _ _ _ S6.out.cur).mono ?_
      rintro e w7 ⟨q, rfl, -, hc, hk⟩
      have S7 := Lib.hid (S6.out.draw gl hc hk)
      clear hc hk S6 c2
      obtain ⟨B7, d7, e7, o7⟩ := S7.out.list
      injection e7 with e7 _ e8
      subst e7 e8
      have c2 : w7.cell? ⟨b, i * 4 + 2, none⟩ = some (.int .i64 l[i].cause) := own_at (R := evR) o7.1 hi 2 rfl
      have f2 : w7.frozen? ⟨b, i * 4 + 2, none⟩ = false := o7.1.frozenAt _
      have S8 := Lib.hid (S7.out.field gl hi (j := 2) (by decide) q ⟨l[i].node, l[i].err, q, l[i].time⟩ rfl)
      clear o7
      go_wp2
      go_ret2
      exact ⟨_, _, _, _, rfl, S8.out⟩
    · obtain ⟨B7, d7, e7, o7⟩ := S6.out.list
      injection e7 with e7 _ e8
      subst e7 e8
      have c3 : w6.cell? ⟨b, i * 4 + 3, none⟩ = some (.int .i64 l[i].time) := own_at (R := evR) o7.1 hi 3 rfl
      clear o7
      have i1 : (i : Int) < (l.length : Int) := by omega
      go_wp2_with fail
      with_reducible refine (below_any _ _ _ _ _ _ S6.out.cur (by omega) (by omega)).mono ?_
      rintro e w7 ⟨q, rfl, -, hc, hk⟩
      have S7 := Lib.hid (S6.out.draw gl hc hk)
      clear hc hk S6 c3
      obtain ⟨B7, d7, e7, o7⟩ := S7.out.list
      injection e7 with e7 _ e8
      subst e7 e8
      have c3 : w7.cell? ⟨b, i * 4 + 3, none⟩ = some (.int .i64 l[i].time) := own_at (R := evR) o7.1 hi 3 rfl
      have f3 : w7.frozen? ⟨b, i * 4 + 3, none⟩ = false := o7.1.frozenAt _
      have S8 := Lib.hid (S7.out.field gl hi (j := 3) (by decide) q ⟨l[i].node, l[i].err, l[i].cause, q⟩ rfl)
      clear o7
      go_wp2
      go_ret2
      exact ⟨_, _, _, _, rfl, S8.out⟩
    · obtain ⟨B7, d7, e7, o7⟩ := S6.out.list
      injection e7 with e7 _ e8
      subst e7 e8
      obtain ⟨x, hx⟩ : ∃ x, x = l[i] := ⟨_, rfl⟩
      have c0 : w6.cell? ⟨b, i * 4, none⟩ = some (.int .i64 x.node) := by rw [hx]; exact own_at (R := evR) o7.1 hi 0 rfl
      have c1 : w6.cell? ⟨b, i * 4 + 1, none⟩ = some (.int .i64 x.err) := by rw [hx]; exact own_at (R := evR) o7.1 hi 1 rfl
      have c2 : w6.cell? ⟨b, i * 4 + 2, none⟩ = some (.int .i64 x.cause) := by rw [hx]; exact own_at (R := evR) o7.1 hi 2 rfl
      have c3 : w6.cell? ⟨b, i * 4 + 3, none⟩ = some (.int .i64 x.time) := by rw [hx]; exact own_at (R := evR) o7.1 hi 3 rfl
      have i1 : (i : Int) < (l.length : Int) := by omega
      have O7 := Lib.hid o7
      have z6 := S6.out.kept.size
      clear o7 hx
      go_wp2_with (at_builtin; refine wpList_app (R := evR) rfl (.tmp 64) (.tmp 69) rfl HE.out w.heap.size (some ⟨b, 0, none⟩) d2 l rfl (row_kept O7.out.1 (Kept.alloc0 w6 (.cells #[.int .i64 x.node, .int .i64 x.err, .int .i64 x.cause, .int .i64 x.time] 27))) (w6.heap.size + 1) (some ⟨w6.heap.size, 0, none⟩) 1 [x] rfl (rd_litE w6 x) (by simp [maxLen]; omega) (by simp; omega) (by simp; omega) ?_; intro D1 d1 w7 hown hgrow hat)
      have S8 : Hid (St6 w w7 g A c xs vt (.slice D1 (l ++ [x]).length d1) t (l ++ [x])) := by
        obtain ⟨cs, hB⟩ := row_blk O7.out.1 (b := b) rfl
        have k1 := Kept.alloc0 w6 (.cells #[.int .i64 x.node, .int .i64 x.err, .int .i64 x.cause, .int .i64 x.time] 27)
        have k2 : Kept b (b + 1) (w6.alloc (.cells #[.int .i64 x.node, .int .i64 x.err, .int .i64 x.cause, .int .i64 x.time] 27)) w7 := Kept.of_grown hgrow (by intro k hk; injection hk with hk; simp only at hk; omega)
        have hB2 := hB.kept k1 (.inl (Nat.le_refl _))
        exact ⟨S6.out.pos, tl, by simp; omega, (((S6.out.tree.kept k1 (.inl (Nat.le_refl _))).beside hB2 (by decide) k2)).wide (Nat.le_refl _) (Nat.le_trans k1.size k2.size), ⟨D1, d1, rfl, OwnZ.of_row hown⟩, (S6.out.cur.kept k1 (.inl (Nat.le_refl _))).kept k2 (.inr (by omega)), (S6.out.kept.trans (k1.wide (.inl (Nat.le_refl _)))).trans2 k2 (.inr hb1)⟩
      clear hown hgrow hat S6
      go_wp2
      go_ret2
      exact ⟨_, _, _, _, by simp, S8.out⟩
end Go.Proofs.YtgahjachkeoflaaDoor
