/- A propagation under way in memory, the program's test on a child, reachedFrom and shown, the library's Clone at bools; no condition beyond what each theorem states. -/
import Derived.Test.YtlfbmjfbebbdlaaWo
import Derived.Test.YtlfbmjfbebbdlaaWc
import Derived.Lib.SliceRun
namespace Go.Proofs.Ytlfbmjfbebbdlaa
open Go.RowKit Go.Sort

set_option maxHeartbeats 800000 in
theorem cloneB_any (xs : List Bool) (v : Value) (w : World) (h : RdB w w.heap.size v xs) (hn : xs.length ≤ 1048576) :
    Calls Try.prog 63 #[v] w fun e w' => ∃ u, e = .returned u ∧ OwnB w' w.heap.size w'.heap.size u xs ∧ Kept 0 0 w w' := by
  obtain ⟨A, c, rfl, h⟩ := h
  cases A with
  | none =>
    have hx : xs = [] := by
      cases xs with
      | nil => rfl
      | cons x r => obtain ⟨ad, h, _⟩ := h.rd.2 (by simp); cases h
    subst hx
    clear h
    have q1 := Lib.run_eql_slice_nil (P := Try.prog) w 28 _ none 0 c 0 0 Try.underlying28
    go_enter Try.func63, Try.ntmps63
    go_wp2
    go_ret
    exact ⟨_, rfl, OwnB.nil _ _ _, Kept.refl _ _ _⟩
  | some ad =>
    have H := Lib.hid h
    clear h
    have HS := Lib.hid bSlice
    have q1 := Lib.run_eql_slice_nil (P := Try.prog) w 28 _ (some ad) xs.length c 0 0 Try.underlying28
    go_enter Try.func63, Try.ntmps63
    go_wp2_with (at_builtin; refine wpList_app (R := bR) rfl (.tmp 5) (.tmp 6) rfl HS.out w.heap.size (some ⟨w.heap.size, 0, none⟩) 0 [] rfl (own_emptyZ (Blk.new w 4 #[]) (Nat.le_refl _)) w.heap.size (some ad) c xs rfl (by exact H.out.rd.kept (Nat.le_refl _) (Kept.alloc0 _ _) (.inl (Nat.le_refl _))) (by simp [maxLen]; omega) (by simp; omega) (by simp) ?_; intro D d w' hown hgrow hat)
    go_ret
    have hk : Kept 0 0 w w' := (Kept.alloc0 w (.cells #[] 4)).app hgrow (by intro g hg; injection hg with hg; subst hg; exact Nat.le_refl _)
    exact ⟨_, rfl, ⟨D, d, rfl, OwnZ.of_row hown⟩, hk⟩

/-- A propagation under way: its variable in block b, its tree in elder memory, who has been told in a row of its own, its work in the ring in block g. -/
structure Ntf (w : World) (lo b g : Nat) (A : Option Addr) (c : Nat) (t : List Nd) (D : Option Addr) (d : Nat) (s : Spr) : Prop where
  blk : Blk w b 67 #[.slice A t.length c, .slice D s.told.length d, .pointer (some ⟨g, 0, none⟩)]
  tree : RdNd w lo (.slice A t.length c) t
  told : w.ownsRow lo 4 1 (.slice D s.told.length d) s.told.length (bR.flat s.told)
  ring : RingQ w g s.work
  hb : lo ≤ b
  hg : lo ≤ g
section
variable {w w' : World} {lo b g c d : Nat} {A D : Option Addr} {t : List Nd} {s : Spr}
theorem Ntf.top (h : Ntf w lo b g A c t D d s) : lo ≤ w.heap.size := Nat.le_trans h.hb (Nat.le_of_lt h.blk.lt)
theorem Ntf.same (h : Ntf w lo b g A c t D d s) (hk : Kept 0 0 w w') : Ntf w' lo b g A c t D d s :=
  ⟨h.blk.kept hk (.inl (Nat.le_refl _)), h.tree.kept h.top hk (.inl (Nat.le_refl _)), row_kept h.told hk, h.ring.kept hk (.inl (Nat.le_refl _)), h.hb, h.hg⟩
theorem Ntf.n0 (h : Ntf w lo b g A c t D d s) : w.cell? ⟨b, 0, none⟩ = some (.slice A t.length c) := h.blk.cell 0
theorem Ntf.n1 (h : Ntf w lo b g A c t D d s) : w.cell? ⟨b, 1, none⟩ = some (.slice D s.told.length d) := h.blk.cell 1
theorem Ntf.n2 (h : Ntf w lo b g A c t D d s) : w.cell? ⟨b, 2, none⟩ = some (.pointer (some ⟨g, 0, none⟩)) := h.blk.cell 2
end

set_option maxHeartbeats 800000 in
theorem isCut_any (w : World) (b c lo q : Nat) (A : Option Addr) (t : List Nd) (hb : w.cell? ⟨b, 0, none⟩ = some (.slice A t.length q)) (ht : RdNd w lo (.slice A t.length q) t) (hc : w.cell? ⟨c, 0, none⟩ = some (.pointer (some ⟨b, 0, none⟩))) (k : Nat) (hk : k < t.length) :
    Calls Try.prog 79 #[.int .i64 k, .pointer (some ⟨c, 0, none⟩)] w fun e w' => e = .returned (.bool (decide (t[k].kind = 4))) ∧ w = w' := by
  obtain ⟨A', c', e', h'⟩ := ht
  injection e' with e1 _ e2
  subst e1 e2
  have hm := h'.rd.1
  unfold maxLen at hm
  obtain ⟨ad, rfl, _, c0, c1, c2, c3, c4⟩ := h'.rd.nd hk
  have i1 : (k : Int) < (t.length : Int) := by omega
  clear h' c1 c2 c3 c4
  go_enter Try.func79, Try.ntmps79
  go_wp2
  go_ret
  exact ⟨ret_bool rfl, rfl⟩

set_option maxHeartbeats 1600000 in
theorem reached_any (w : World) (lo b g c d : Nat) (A D : Option Addr) (t : List Nd) (s : Spr) (n : Int) (h : Ntf w lo b g A c t D d s) :
    Calls Try.prog 68 #[.pointer (some ⟨b, 0, none⟩), .int .i64 n] w fun e w' => ∃ u, e = .returned u ∧ OwnI w' w.heap.size w'.heap.size u (belowL t n) ∧ Kept 0 0 w w' := by
  have H := Lib.hid h
  obtain ⟨W, hW⟩ : ∃ W, W = w.alloc (.cells #[.pointer (some ⟨b, 0, none⟩)] 61) := ⟨_, rfl⟩
  have KW : Hid (Kept 0 0 w W) := by show Kept _ _ _ _; rw [hW]; exact Kept.alloc0 _ _
  have B0 : Hid (Blk W w.heap.size 61 #[.pointer (some ⟨b, 0, none⟩)]) := by show Blk _ _ _ _; rw [hW]; exact Blk.new _ _ _
  have HW := Lib.hid hW
  have zW : w.heap.size < W.heap.size := by rw [hW]; simp
  clear h hW
  have HA := Lib.hid (H.out.same KW.out)
  have CK := Lib.hid (implKids t n _ W (HA.out.tree.wide HA.out.top))
  have n0 := HA.out.n0
  go_enter Try.func68, Try.ntmps68
  go_upto_region 1 with fail
  rw [← HW.out]
  have a0 : W.cell? ⟨w.heap.size, 0, none⟩ = some (.pointer (some ⟨b, 0, none⟩)) := B0.out.cell 0
  go_wp2_with fail
  with_reducible refine CK.out.mono ?_
  rintro e w2 ⟨_, rfl, ⟨D2, d2, rfl, o2⟩, hk⟩
  have O2 := Lib.hid o2
  have K2 := Lib.hid hk
  have z2 := hk.size
  clear o2 hk CK n0 a0
  have HC := Lib.hid (deleteI_any w2 D2 d2 w.heap.size W.heap.size w2.heap.size (kidsL t n) (fun m => decide ((ndAt t m).kind = 4)) O2.out (fun w' hk x hx => by
    obtain ⟨ht, k, hkk, rfl, hu⟩ := kidsL_mem.1 hx
    have hb2 := (B0.out.kept K2.out (.inl (Nat.le_refl _))).kept hk (.inr (.inl zW))
    have bb := H.out.blk.lt
    have h2 := (H.out.same (KW.out.trans K2.out))
    have hn2 := h2.blk.kept hk (.inr (.inl (by omega)))
    have ht2 := h2.tree.kept h2.top hk (.inr (by have := H.out.top; omega))
    have := isCut_any w' b w.heap.size lo c A t (hn2.cell 0) ht2 (hb2.cell 0) k hkk
    rw [← ndAt_nat t hkk] at this
    exact this) (by have := kidsL_len t n; omega) (Nat.le_refl _))
  go_wp2_with fail
  with_reducible refine HC.out.mono ?_
  rintro e w3 ⟨u, rfl, hu, hk⟩
  have E : (kidsL t n).filter (fun x => !decide ((ndAt t x).kind = 4)) = belowL t n := by
    unfold belowL
    congr 1
    funext m
    simp
  rw [E] at hu
  have U := Lib.hid hu
  have K3 := Lib.hid ((KW.out.trans K2.out).trans2 hk (.inr (by omega)))
  have z3 := hk.size
  clear hk hu HC
  go_wp2
  go_ret
  exact ⟨_, rfl, U.out.wide (by omega) z3, K3.out⟩

theorem results_shown (tmps : Array Value) (w : World) (r : Nat) (v0 v1 : Value) (hp : tmps[2]?.getD undef = .pointer (some ⟨r, 0, none⟩)) (h : Blk w r 31 #[v0, v1]) :
    (results Try.f39 tmps).run Try.prog w = .ok (.agg #[v0, v1]) w := by
  have h0 : w.cell? ⟨r, 0, none⟩ = some v0 := h.cell 0
  have h1 : w.cell? ⟨r, 1, none⟩ = some v1 := h.cell 1
  simp [results, Try.results39, hp, go_sem, h0, h1]
theorem kept_two (V : World) (r : Nat) (a b : Value) : Kept r (r + 1) V ((V.setCell ⟨r, 0, none⟩ a).setCell ⟨r, 1, none⟩ b) := (kept_set1 V r 0 a).trans (kept_set1 _ r 1 b)
theorem blk_two {V : World} {r ty : Nat} {x y : Value} (h : Blk V r ty #[x, y]) (a b : Value) : Blk ((V.setCell ⟨r, 0, none⟩ a).setCell ⟨r, 1, none⟩ b) r ty #[a, b] := (h.set_ 0 a).set_ 1 b
theorem ms_two {w : World} {b ty r : Nat} {x0 x1 x2 : Value} (h : Blk w b ty #[x0, x1, x2]) (hne : b ≠ r) (u v : Value) : ((w.setCell ⟨r, 0, none⟩ u).setCell ⟨r, 1, none⟩ v).cell? ⟨b, 1, none⟩ = some x1 ∧ ((w.setCell ⟨r, 0, none⟩ u).setCell ⟨r, 1, none⟩ v).cell? ⟨b, 2, none⟩ = some x2 :=
  ⟨((h.far hne u).far hne v).cell 1, ((h.far hne u).far hne v).cell 2⟩
set_option maxHeartbeats 1600000 in
theorem shown_any (w : World) (lo b g c d : Nat) (A D : Option Addr) (t : List Nd) (s : Spr) (h : Ntf w lo b g A c t D d s) :
    Calls Try.prog 39 #[.pointer (some ⟨b, 0, none⟩)] w fun e w' => ∃ u, e = .returned (.agg #[.slice D s.told.length d, u]) ∧ OwnI w' w.heap.size w'.heap.size u s.work ∧ Kept 0 0 w w' := by
  have H := Lib.hid h
  obtain ⟨W, hW⟩ : ∃ W, W = w.alloc (.cells #[.slice none 0 0, .slice none 0 0] 31) := ⟨_, rfl⟩
  have KW : Hid (Kept 0 0 w W) := by show Kept _ _ _ _; rw [hW]; exact Kept.alloc0 _ _
  have R0 : Hid (Blk W w.heap.size 31 #[.slice none 0 0, .slice none 0 0]) := by show Blk _ _ _ _; rw [hW]; exact Blk.new _ _ _
  have HW := Lib.hid hW
  have zW : w.heap.size < W.heap.size := by rw [hW]; simp
  clear h hW
  have HA := Lib.hid (H.out.same KW.out)
  go_enter Try.func39, Try.ntmps39
  go_upto_region 1 with fail
  rw [← HW.out]
  clear HW
  have hbr : b ≠ w.heap.size := by have := H.out.blk.lt; omega
  have HD := Lib.hid (HA.out.same (Kept.refl 0 0 W).drew)
  have ms := And.intro HD.out.n1 HD.out.n2
  go_region_held3 (fun w' => w'.cell? ⟨b, 1, none⟩ = some (.slice D s.told.length d) ∧ w'.cell? ⟨b, 2, none⟩ = some (.pointer (some ⟨g, 0, none⟩)))
    (with_reducible assumption)
    (first | (go_at_call 64; (with_reducible refine (list_any g s.work W.drew HD.out.ring).mono ?_); rintro e w1 ⟨_, rfl, ⟨D2, d2, rfl, o2⟩, hk⟩; have O2 := Lib.hid o2; have ms2 := And.intro (HD.out.same hk).n1 (HD.out.same hk).n2; have ms3 := ms_two (HD.out.same hk).blk hbr (.slice D s.told.length d) (.slice D2 s.work.length d2); have k1 := Lib.hid ((Kept.refl 0 0 W).drew.trans hk); have R1 := Lib.hid (R0.out.kept k1.out (.inl (Nat.le_refl _))); have f0 := R1.out.frozen 0; have f1 := R1.out.frozen 1; have r0 : w1.cell? ⟨w.heap.size, 0, none⟩ = some (.slice none 0 0) := R1.out.cell 0; have r1 : w1.cell? ⟨w.heap.size, 1, none⟩ = some (.slice none 0 0) := R1.out.cell 1; clear o2 hk))
  clear ms3 ms2 ms r0 r1 f0 f1
  have RF := Lib.hid (blk_two R1.out (.slice D s.told.length d) (.slice D2 s.work.length d2))
  have KF := Lib.hid (kept_two w1 w.heap.size (.slice D s.told.length d) (.slice D2 s.work.length d2))
  go_wp2_with fail
  have z1 := KF.out.size
  exact bodyPost_ret (results_shown _ _ w.heap.size _ _ rfl RF.out) rfl ⟨_, rfl, ⟨D2, d2, rfl, (O2.out.kept KF.out (.inr (.inr zW))).wide (by show w.heap.size ≤ W.heap.size; omega) z1⟩, (KW.out.trans k1.out).trans2 KF.out (.inr (Nat.le_refl _))⟩
end Go.Proofs.Ytlfbmjfbebbdlaa
