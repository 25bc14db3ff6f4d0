/- The reference's functions of heaps: joining and merging; no condition beyond that the slices can be read. -/
import Derived.Test.YtnphjohmkjoefaaSq
import Derived.Deep.RegionHeld3
namespace Go.Proofs.Ytnphjohmkjoefaa
open Go.RowKit Go.Sort

/-- A root over two heaps. -/
def joinL (x : Tw) (a b : List Tw) : List Tw := if rankL a < rankL b then ⟨x.due, x.seq, b.length⟩ :: (b ++ a) else ⟨x.due, x.seq, a.length⟩ :: (a ++ b)

/-- A function that returns new elements. -/
def NewTw (xs : List Tw) (w : World) (e : Ending) (w' : World) : Prop :=
  ∃ (D : Option Addr) (d : Nat), e = .returned (.slice D xs.length d) ∧ OwnZ w' w.heap.size w'.heap.size 77 3 D xs.length d (twR.flat xs) ∧ Kept 0 0 w w'

theorem own_lit3 (w : World) (x : Tw) : (w.alloc (.cells #[.int .i64 x.due, .int .i64 x.seq, .int .i64 x.lefts] 77)).ownsRow w.heap.size 77 3 (.slice (some ⟨w.heap.size, 0, none⟩) 1 1) 1 (twR.flat [x]) :=
  World.ownsRow_lit w #[.int .i64 x.due, .int .i64 x.seq, .int .i64 x.lefts] 1 (Nat.le_refl _) (by unfold maxLen; omega) rfl

set_option maxHeartbeats 1600000 in
theorem join_any (x : Tw) (a b : List Tw) (A A' : Option Addr) (c c' B : Nat) (w : World) (hB : B ≤ w.heap.size) (h : SL twR w B A c a) (h' : SL twR w B A' c' b) (hn : a.length + b.length ≤ 1000) :
    Calls Try.prog 73 #[.agg #[.int .i64 x.due, .int .i64 x.seq, .int .i64 x.lefts], .slice A a.length c, .slice A' b.length c'] w (NewTw (joinL x a b) w) := by
  have H := Lib.hid h
  have H' := Lib.hid h'
  have HS := Lib.hid twSlice
  clear h h'
  go_enter Try.func73, Try.ntmps73
  go_wp2_with fail
  obtain ⟨V, hV⟩ : ∃ V, V = w.alloc (.cells #[.int .i64 x.due, .int .i64 x.seq, .int .i64 x.lefts] 77) := ⟨_, rfl⟩
  have BV : Hid (Blk V w.heap.size 77 #[.int .i64 x.due, .int .i64 x.seq, .int .i64 x.lefts]) := by show Blk _ _ _ _; rw [hV]; exact Blk.new _ _ _
  have KV : Hid (Kept 0 0 w V) := by show Kept _ _ _ _; rw [hV]; exact Kept.alloc0 _ _
  rw [← hV]
  clear hV
  have zV := KV.out.size
  with_reducible refine (rank_any a _ _ B _ (Nat.le_trans hB zV) (H.out.kept hB KV.out (.inl (Nat.le_refl _)))).mono ?_
  rintro e w1 ⟨rfl, hk⟩
  have K1 := Lib.hid (KV.out.trans hk)
  have B1 := Lib.hid (BV.out.kept hk (.inl (Nat.le_refl _)))
  clear hk BV KV
  go_wp2_with fail
  have z1 := K1.out.size
  with_reducible refine (rank_any b _ _ B _ (Nat.le_trans hB z1) (H'.out.kept hB K1.out (.inl (Nat.le_refl _)))).mono ?_
  rintro e w2 ⟨rfl, hk⟩
  have K2 := Lib.hid (K1.out.trans hk)
  have B2 := Lib.hid (B1.out.kept hk (.inl (Nat.le_refl _)))
  clear hk K1 B1 z1 zV
  have z2 := B2.out.lt
  have K20 := K2.out.size
  have c0 := B2.out.cell 0
  have c1 := B2.out.cell 1
  have c2 := B2.out.cell 2
  have f2 := B2.out.frozen 2
  by_cases hr : rankL a < rankL b
  · have g : decide (rankL a < rankL b) = true := by simpa using hr
    have E : Hid (joinL x a b = ⟨x.due, x.seq, b.length⟩ :: (b ++ a)) := by show _ = _; rw [joinL, if_pos hr]
    clear hr
    obtain ⟨V2, hV2⟩ : ∃ V2, V2 = (w2.setCell ⟨w.heap.size, 2, none⟩ (.int .i64 b.length)) := ⟨_, rfl⟩
    have KV2 : Hid (Kept 0 0 w V2) := by show Kept _ _ _ _; rw [hV2]; exact K2.out.setCell (.inl (Nat.le_refl _)) _
    have zV2 : V2.heap.size = w2.heap.size := by rw [hV2]; simp
    have O1 := own_lit3 V2 ⟨x.due, x.seq, b.length⟩
    have K3 := (KV2.out.alloc (.cells #[.int .i64 x.due, .int .i64 x.seq, .int .i64 b.length] 77))
    have z3 := K3.size
    rw [zV2, hV2] at O1
    rw [hV2] at K3 z3
    have O1' := Lib.hid O1
    have K3' := Lib.hid K3
    clear O1 K3 zV2 hV2 KV2 K2 B2
    go_wp2_with (first
      | (at_builtin; refine wpList_app (R := twR) rfl (.tmp 20) (.tmp 21) rfl HS.out w2.heap.size (some ⟨w2.heap.size, 0, none⟩) 1 [⟨x.due, x.seq, b.length⟩] rfl O1'.out B A' c' b rfl (by exact H'.out.rd.kept hB K3'.out (.inl (Nat.le_refl _))) (by simp [maxLen]; omega) (by simp; omega) (by simp) ?_; intro D d w4 hown hgrow hat; have K4 := Lib.hid (K3'.out.app hgrow (by intro g hg; injection hg with hg; subst hg; exact K20)); have O4 := Lib.hid hown; have hD : ∀ g, rowAt D = some g → w.heap.size ≤ g := (fun g hg => Nat.le_trans K20 (own_row_lo hown g hg).1); have HD := Lib.hid hD; have z4 : w2.heap.size ≤ w4.heap.size := Nat.le_trans (by simp) hgrow.size; clear hown hgrow hat hD)
      | (at_builtin; refine wpList_app (R := twR) rfl (.tmp 22) (.tmp 23) rfl HS.out w2.heap.size D d ([⟨x.due, x.seq, b.length⟩] ++ b) rfl O4.out B A c a rfl (by exact H.out.rd.kept hB K4.out (.inl (Nat.le_refl _))) (by simp [maxLen]; omega) (by simp; omega) z4 ?_; intro D5 d5 w5 hown hgrow hat))
    go_ret
    refine ⟨D5, d5, ?_, ?_, K4.out.app hgrow HD.out⟩
    · rw [E.out, List.length_cons, List.length_append]; rfl
    · rw [E.out]; exact (OwnZ.of_row hown).wide K20 (Nat.le_refl _)
  · have g : decide (rankL a < rankL b) = false := by simpa using hr
    have E : Hid (joinL x a b = ⟨x.due, x.seq, a.length⟩ :: (a ++ b)) := by show _ = _; rw [joinL, if_neg hr]
    clear hr
    obtain ⟨V2, hV2⟩ : ∃ V2, V2 = (w2.setCell ⟨w.heap.size, 2, none⟩ (.int .i64 a.length)) := ⟨_, rfl⟩
    have KV2 : Hid (Kept 0 0 w V2) := by show Kept _ _ _ _; rw [hV2]; exact K2.out.setCell (.inl (Nat.le_refl _)) _
    have zV2 : V2.heap.size = w2.heap.size := by rw [hV2]; simp
    have O1 := own_lit3 V2 ⟨x.due, x.seq, a.length⟩
    have K3 := (KV2.out.alloc (.cells #[.int .i64 x.due, .int .i64 x.seq, .int .i64 a.length] 77))
    have z3 := K3.size
    rw [zV2, hV2] at O1
    rw [hV2] at K3 z3
    have O1' := Lib.hid O1
    have K3' := Lib.hid K3
    clear O1 K3 zV2 hV2 KV2 K2 B2
    go_wp2_with (first
      | (at_builtin; refine wpList_app (R := twR) rfl (.tmp 20) (.tmp 21) rfl HS.out w2.heap.size (some ⟨w2.heap.size, 0, none⟩) 1 [⟨x.due, x.seq, a.length⟩] rfl O1'.out B A c a rfl (by exact H.out.rd.kept hB K3'.out (.inl (Nat.le_refl _))) (by simp [maxLen]; omega) (by simp; omega) (by simp) ?_; intro D d w4 hown hgrow hat; have K4 := Lib.hid (K3'.out.app hgrow (by intro g hg; injection hg with hg; subst hg; exact K20)); have O4 := Lib.hid hown; have hD : ∀ g, rowAt D = some g → w.heap.size ≤ g := (fun g hg => Nat.le_trans K20 (own_row_lo hown g hg).1); have HD := Lib.hid hD; have z4 : w2.heap.size ≤ w4.heap.size := Nat.le_trans (by simp) hgrow.size; clear hown hgrow hat hD)
      | (at_builtin; refine wpList_app (R := twR) rfl (.tmp 22) (.tmp 23) rfl HS.out w2.heap.size D d ([⟨x.due, x.seq, a.length⟩] ++ a) rfl O4.out B A' c' b rfl (by exact H'.out.rd.kept hB K4.out (.inl (Nat.le_refl _))) (by simp [maxLen]; omega) (by simp; omega) z4 ?_; intro D5 d5 w5 hown hgrow hat))
    go_ret
    refine ⟨D5, d5, ?_, ?_, K4.out.app hgrow HD.out⟩
    · rw [E.out, List.length_cons, List.length_append]; rfl
    · rw [E.out]; exact (OwnZ.of_row hown).wide K20 (Nat.le_refl _)

theorem join_pre (d s z : Int) (a b : HTree) (ha : a.ok = true) (hb : b.ok = true) : joinL ⟨d, s, z⟩ a.pre b.pre = (joinT d s a b).pre := by
  unfold joinL joinT
  rw [rankL_pre a ha, rankL_pre b hb, HTree.pre_len, HTree.pre_len]
  by_cases h : a.rank < b.rank
  · rw [if_pos h, if_pos (by omega)]; rfl
  · rw [if_neg h, if_neg (by omega)]; rfl

/-- The reference's merging of heaps of together at most n elements. -/
def MergeDoes (n : Nat) : Prop := ∀ (ta tb : HTree) (A A' : Option Addr) (c c' B : Nat) (w : World), ta.size + tb.size ≤ n → n ≤ 1000 → ta.ok = true → tb.ok = true → apart ta tb → B ≤ w.heap.size → SL twR w B A c ta.pre → SL twR w B A' c' tb.pre →
  Calls Try.prog 60 #[.slice A ta.pre.length c, .slice A' tb.pre.length c'] w (NewTw (mergeT ta tb).pre w)
theorem MergeDoes.at_ {n : Nat} (h : MergeDoes n) (ta tb : HTree) (A A' : Option Addr) (c c' B : Nat) (w : World) (h1 : ta.size + tb.size ≤ n) (h2 : n ≤ 1000) (h3 : ta.ok = true) (h4 : tb.ok = true) (h5 : apart ta tb) (hB : B ≤ w.heap.size) (hs : SL twR w B A c ta.pre) (hs' : SL twR w B A' c' tb.pre) :
    Calls Try.prog 60 #[.slice A ta.pre.length c, .slice A' tb.pre.length c'] w (NewTw (mergeT ta tb).pre w) := h ta tb A A' c c' B w h1 h2 h3 h4 h5 hB hs hs'

theorem MergeDoes.at2 {n : Nat} (h : MergeDoes n) (ta tb : HTree) (m : Nat) (hm : m = tb.pre.length) (A A' : Option Addr) (c c' B : Nat) (w : World) (h1 : ta.size + tb.size ≤ n) (h2 : n ≤ 1000) (h3 : ta.ok = true) (h4 : tb.ok = true) (h5 : apart ta tb) (hB : B ≤ w.heap.size) (hs : SL twR w B A c ta.pre) (hs' : SL twR w B A' c' tb.pre) :
    Calls Try.prog 60 #[.slice A ta.pre.length c, .slice A' m c'] w (NewTw (mergeT ta tb).pre w) := by subst hm; exact h ta tb A A' c c' B w h1 h2 h3 h4 h5 hB hs hs'

set_option maxHeartbeats 800000 in
theorem merge_left (tb : HTree) (A A' : Option Addr) (c c' B : Nat) (w : World) (hn : tb.size ≤ 1000) (hB : B ≤ w.heap.size) (hs' : SL twR w B A' c' tb.pre) :
    Calls Try.prog 60 #[.slice A 0 c, .slice A' tb.pre.length c'] w (NewTw (mergeT .nil tb).pre w) := by
  rw [mergeT_nil_left]
  have hl : tb.pre.length ≤ 1000 := by rw [HTree.pre_len]; exact hn
  have H := Lib.hid hs'
  clear hs'
  generalize tb.pre = b at *
  go_enter Try.func60, Try.ntmps60
  go_wp2_with fail
  with_reducible refine (copySpec_any b _ _ B _ hB H.out (by omega)).mono ?_
  rintro e w1 ⟨D, d, rfl, ho, hk⟩
  have O := Lib.hid ho
  have K := Lib.hid hk
  clear ho hk
  go_wp2
  go_ret
  exact ⟨D, d, rfl, O.out, K.out⟩
set_option maxHeartbeats 800000 in
theorem merge_right (d s : Int) (l r : HTree) (A A' : Option Addr) (c c' B : Nat) (w : World) (hn : (HTree.node d s l r).size ≤ 1000) (hB : B ≤ w.heap.size) (hs : SL twR w B A c (HTree.node d s l r).pre) :
    Calls Try.prog 60 #[.slice A (HTree.node d s l r).pre.length c, .slice A' 0 c'] w (NewTw (mergeT (.node d s l r) .nil).pre w) := by
  rw [mergeT_nil_right]
  have hl : (HTree.node d s l r).pre.length ≤ 1000 := by rw [HTree.pre_len]; exact hn
  have hz : ((((HTree.node d s l r).pre.length : Nat) : Int) == 0) = false := by simp [HTree.pre]; omega
  have H := Lib.hid hs
  clear hs
  generalize (HTree.node d s l r).pre = b at *
  go_enter Try.func60, Try.ntmps60
  go_wp2_with fail
  with_reducible refine (copySpec_any b _ _ B _ hB H.out (by omega)).mono ?_
  rintro e w1 ⟨D, d, rfl, ho, hk⟩
  have O := Lib.hid ho
  have K := Lib.hid hk
  clear ho hk
  go_wp2
  go_ret
  exact ⟨D, d, rfl, O.out, K.out⟩

/-- The parts of a heap that is a tree. -/
theorem parts_tree (d s : Int) (l r : HTree) (n1 : Nat) (hn1 : n1 = (HTree.node d s l r).pre.length) (A : Option Addr) (c B : Nat) (w : World) (hB : B ≤ w.heap.size) (h : SL twR w B A c (HTree.node d s l r).pre) :
    Calls Try.prog 71 #[.slice A n1 c] w fun e w' => ∃ (A1 A2 : Option Addr) (c1 c2 : Nat), e = .returned (.tuple #[.slice A1 l.pre.length c1, .slice A2 r.pre.length c2, .bool true]) ∧
      SL twR w' B A1 c1 l.pre ∧ SL twR w' B A2 c2 r.pre ∧ Kept 0 0 w w' := by
  subst hn1
  have e1 : (l.pre ++ r.pre).take ((l.size : Int)).toNat = l.pre := by rw [← HTree.pre_len]; simp
  have e2 : (l.pre ++ r.pre).drop ((l.size : Int)).toNat = r.pre := by rw [← HTree.pre_len]; simp
  have := parts_ok ⟨d, s, l.size⟩ (l.pre ++ r.pre) A c B w hB h (by simp) (by simp [HTree.pre_len]; omega)
  refine this.mono ?_
  rintro e w' ⟨A1, A2, c1, c2, rfl, h1, h2, h3⟩
  simp only [e1, e2] at h1 h2 ⊢
  exact ⟨A1, A2, c1, c2, rfl, h1, h2, h3⟩

theorem tw_node_pre (d s : Int) (l r : HTree) : (HTree.node d s l r).pre = ⟨d, s, l.size⟩ :: (l.pre ++ r.pre) := rfl

/-- The root that is ahead is the root; the rest of the walk, whichever of the two it is. -/
theorem merge_join {d s : Int} {l r o : HTree} (hl : l.ok = true) (hm : (mergeT r o).ok = true) : joinL ⟨d, s, l.size⟩ l.pre (mergeT r o).pre = (joinT d s l (mergeT r o)).pre := join_pre _ _ _ _ _ hl hm

set_option maxHeartbeats 6400000 in
theorem merge_node {n : Nat} (ih : MergeDoes n) (d s d' s' : Int) (l r l' r' : HTree) (A A' : Option Addr) (c c' B : Nat) (w : World) (hn : (HTree.node d s l r).size + (HTree.node d' s' l' r').size ≤ n + 1) (hn2 : n + 1 ≤ 1000)
    (h1 : (HTree.node d s l r).ok = true) (h2 : (HTree.node d' s' l' r').ok = true) (hp : apart (.node d s l r) (.node d' s' l' r')) (hB : B ≤ w.heap.size) (hs : SL twR w B A c (HTree.node d s l r).pre) (hs' : SL twR w B A' c' (HTree.node d' s' l' r').pre) :
    Calls Try.prog 60 #[.slice A (HTree.node d s l r).pre.length c, .slice A' (HTree.node d' s' l' r').pre.length c'] w (NewTw (mergeT (.node d s l r) (.node d' s' l' r')).pre w) := by
  obtain ⟨ad, rfl, _, c0, c1, c2⟩ := hs.rd.head
  obtain ⟨ad', rfl, _, d0, d1, d2⟩ := hs'.rd.head
  have m1 := hs.rd.1
  have m2 := hs'.rd.1
  unfold maxLen at m1 m2
  have H := Lib.hid hs
  have H' := Lib.hid hs'
  have IH := Lib.hid ih
  have OA := Lib.hid h1
  have OB := Lib.hid h2
  have P := Lib.hid hp
  have EM := Lib.hid (mergeT_node d s d' s' l r l' r')
  have L1 : Hid ((HTree.node d s l r).pre.length = (HTree.node d s l r).size) := HTree.pre_len _
  have L2 : Hid ((HTree.node d' s' l' r').pre.length = (HTree.node d' s' l' r').size) := HTree.pre_len _
  have g1 : (((HTree.node d s l r).pre.length : Int) == 0) = false := by simp [HTree.pre]; omega
  have g2 : (((HTree.node d' s' l' r').pre.length : Int) == 0) = false := by simp [HTree.pre]; omega
  have p1 : 0 < (HTree.node d s l r).pre.length := by simp [HTree.pre]
  have p2 : 0 < (HTree.node d' s' l' r').pre.length := by simp [HTree.pre]
  have q1 : (0 : Int) < ((HTree.node d s l r).pre.length : Int) := by omega
  have q2 : (0 : Int) < ((HTree.node d' s' l' r').pre.length : Int) := by omega
  clear hs hs' ih h1 h2 hp
  obtain ⟨n1, hn1⟩ : ∃ n1, n1 = (HTree.node d s l r).pre.length := ⟨_, rfl⟩
  obtain ⟨n2, hn2'⟩ : ∃ n2, n2 = (HTree.node d' s' l' r').pre.length := ⟨_, rfl⟩
  rw [← hn1, ← hn2']
  rw [← hn1] at m1 g1 p1 q1
  rw [← hn2'] at m2 g2 p2 q2
  have HN1 := Lib.hid hn1
  have HN2 := Lib.hid hn2'
  clear hn1 hn2'
  go_enter Try.func60, Try.ntmps60
  go_wp2_with fail
  have k0 := cell_regrown c0
  have k1 := cell_regrown c1
  have k2 := cell_regrown c2
  have j0 := cell_regrown d0
  have j1 := cell_regrown d1
  have j2 := cell_regrown d2
  clear c0 c1 c2 d0 d1 d2
  have CO := Lib.hid (fun x os => regrown_call (ahead_any ⟨d, s, l.size⟩ ⟨d', s', l'.size⟩ (grow (redrawn w x) os)))
  have EA : Hid (aheadB ⟨d, s, l.size⟩ ⟨d', s', l'.size⟩ = aheadB ⟨d, s, 0⟩ ⟨d', s', 0⟩) := rfl
  rw [EA.out] at CO
  cases ha : aheadB ⟨d, s, 0⟩ ⟨d', s', 0⟩
  · rw [ha] at CO
    rw [ha, if_neg (by simp)] at EM
    refine wp_region_quiet_below (by kernel_rfl) (by kernel_rfl) ?_
    repeat (first | go_big_quiet_step (with_reducible exact CO.out _ _) | quiet_step (with_reducible exact CO.out _ _))
    refine wpQuiet_nil ?_
    intro _ hw'
    obtain ⟨⟨dq, osq⟩, hw''⟩ := hw'
    subst hw''
    clear k0 k1 k2 j0 j1 j2 CO
    obtain ⟨W, hW⟩ : ∃ W, W = grow (redrawn w dq) osq := ⟨_, rfl⟩
    have KW : Hid (Kept 0 0 w W) := by show Kept _ _ _ _; rw [hW]; exact Kept.regrown w dq osq
    rw [← hW]
    clear hW
    go_wp2_with fail
    with_reducible refine (parts_tree d' s' l' r' n2 HN2.out _ _ B _ (Nat.le_trans hB KW.out.size) (H'.out.kept hB KW.out (.inl (Nat.le_refl _)))).mono ?_
    rintro e w1 ⟨A1, A2, c1, c2, rfl, s1, s2, hk⟩
    have K1 := Lib.hid (KW.out.trans hk)
    have S1 := Lib.hid s1
    have S2 := Lib.hid s2
    clear s1 s2 hk KW
    have zw := K1.out.size
    have HO := Lib.hid (H'.out.kept hB K1.out (.inl (Nat.le_refl _)))
    have HX := Lib.hid (H.out.kept hB K1.out (.inl (Nat.le_refl _)))
    obtain ⟨a4, e4, _, t0, t1, t2⟩ := HO.out.rd.head
    injection e4 with e4
    subst e4
    obtain ⟨o1, o2, o3, o4, o5⟩ := ok_node OB.out
    have T0 := Lib.hid t0
    have T1 := Lib.hid t1
    have T2 := Lib.hid t2
    have O2 := Lib.hid o4
    have O3 := Lib.hid o5
    have OM := Lib.hid (merge_ok r' (.node d s l r) o5 OA.out (P.out.symm.right))
    have EJ := Lib.hid (merge_join (d := d') (s := s') o4 OM.out)
    have hsz : r'.size + (HTree.node d s l r).size ≤ n := by simp only [HTree.size] at hn ⊢; omega
    have hsm : (HTree.size l') + (HTree.size (mergeT r' (.node d s l r))) ≤ 1000 := by rw [merge_size]; simp only [HTree.size] at hn ⊢; omega
    have HL1 : Hid (l'.pre.length = l'.size) := HTree.pre_len _
    have HL2 : Hid ((mergeT r' (.node d s l r)).pre.length = (mergeT r' (.node d s l r)).size) := HTree.pre_len _
    clear t0 t1 t2 o1 o2 o3 o4 o5
    go_wp2_with fail
    go_region_held3 (fun w' => w'.cell? ad' = some (.int .i64 d') ∧ w'.cell? ⟨ad'.block, ad'.off + 1, none⟩ = some (.int .i64 s') ∧ w'.cell? ⟨ad'.block, ad'.off + 2, none⟩ = some (.int .i64 l'.size))
      (first | exact ⟨T0.out, T1.out, T2.out⟩ | exact ⟨cell_kept k2 T0.out, cell_kept k2 T1.out, cell_kept k2 T2.out⟩ | exact ⟨cell_kept k3 T0.out, cell_kept k3 T1.out, cell_kept k3 T2.out⟩)
      (first
        | (go_at_call 60; refine (IH.out.at2 r' (.node d s l r) n1 HN1.out A2 (some ad) c2 c B _ hsz (by omega) O3.out OA.out P.out.symm.right (by simp; omega) (by exact S2.out.kept (by omega) ((Kept.refl 0 0 w1).drew) (.inl (Nat.le_refl _))) (by exact HX.out.kept (by omega) ((Kept.refl 0 0 w1).drew) (.inl (Nat.le_refl _)))).mono ?_; rintro e w2 ⟨D, d2, rfl, ho, hk⟩; have k2 : Kept 0 0 w1 w2 := (Kept.refl 0 0 w1).drew.trans hk; have S3 := (OwnZ.sl (R := twR) ho).2; have z2 := k2.size; clear hk ho)
        | (go_at_call 73; refine (join_any ⟨d', s', l'.size⟩ l'.pre (mergeT r' (.node d s l r)).pre A1 D c1 d2 w2.heap.size _ (Nat.le_refl _) (by exact (S1.out.kept (by omega) k2 (.inl (Nat.le_refl _))).wide (by omega)) (by exact S3) (by rw [HL1.out, HL2.out]; exact hsm)).mono ?_; rintro e w3 ⟨D3, d3, rfl, ho, hk⟩; have k3 : Kept 0 0 w1 w3 := k2.trans hk; have O4 := ho; clear hk ho))
    all_goals go_wp2
    all_goals go_ret
    all_goals (rw [EM.out, ← EJ.out]; exact ⟨D3, d3, rfl, O4.wide (by omega) (Nat.le_refl _), K1.out.trans k3⟩)
  · rw [ha] at CO
    rw [ha, if_pos rfl] at EM
    refine wp_region_quiet_below (by kernel_rfl) (by kernel_rfl) ?_
    repeat (first | go_big_quiet_step (with_reducible exact CO.out _ _) | quiet_step (with_reducible exact CO.out _ _))
    refine wpQuiet_nil ?_
    intro _ hw'
    obtain ⟨⟨dq, osq⟩, hw''⟩ := hw'
    subst hw''
    clear k0 k1 k2 j0 j1 j2 CO
    obtain ⟨W, hW⟩ : ∃ W, W = grow (redrawn w dq) osq := ⟨_, rfl⟩
    have KW : Hid (Kept 0 0 w W) := by show Kept _ _ _ _; rw [hW]; exact Kept.regrown w dq osq
    rw [← hW]
    clear hW
    go_wp2_with fail
    with_reducible refine (parts_tree d s l r n1 HN1.out _ _ B _ (Nat.le_trans hB KW.out.size) (H.out.kept hB KW.out (.inl (Nat.le_refl _)))).mono ?_
    rintro e w1 ⟨A1, A2, c1, c2, rfl, s1, s2, hk⟩
    have K1 := Lib.hid (KW.out.trans hk)
    have S1 := Lib.hid s1
    have S2 := Lib.hid s2
    clear s1 s2 hk KW
    have zw := K1.out.size
    have HO := Lib.hid (H.out.kept hB K1.out (.inl (Nat.le_refl _)))
    have HX := Lib.hid (H'.out.kept hB K1.out (.inl (Nat.le_refl _)))
    obtain ⟨a4, e4, _, t0, t1, t2⟩ := HO.out.rd.head
    injection e4 with e4
    subst e4
    obtain ⟨o1, o2, o3, o4, o5⟩ := ok_node OA.out
    have T0 := Lib.hid t0
    have T1 := Lib.hid t1
    have T2 := Lib.hid t2
    have O2 := Lib.hid o4
    have O3 := Lib.hid o5
    have OM := Lib.hid (merge_ok r (.node d' s' l' r') o5 OB.out (P.out.right))
    have EJ := Lib.hid (merge_join (d := d) (s := s) o4 OM.out)
    have hsz : r.size + (HTree.node d' s' l' r').size ≤ n := by simp only [HTree.size] at hn ⊢; omega
    have hsm : (HTree.size l) + (HTree.size (mergeT r (.node d' s' l' r'))) ≤ 1000 := by rw [merge_size]; simp only [HTree.size] at hn ⊢; omega
    have HL1 : Hid (l.pre.length = l.size) := HTree.pre_len _
    have HL2 : Hid ((mergeT r (.node d' s' l' r')).pre.length = (mergeT r (.node d' s' l' r')).size) := HTree.pre_len _
    clear t0 t1 t2 o1 o2 o3 o4 o5
    go_wp2_with fail
    go_region_held3 (fun w' => w'.cell? ad = some (.int .i64 d) ∧ w'.cell? ⟨ad.block, ad.off + 1, none⟩ = some (.int .i64 s) ∧ w'.cell? ⟨ad.block, ad.off + 2, none⟩ = some (.int .i64 l.size))
      (first | exact ⟨T0.out, T1.out, T2.out⟩ | exact ⟨cell_kept k2 T0.out, cell_kept k2 T1.out, cell_kept k2 T2.out⟩ | exact ⟨cell_kept k3 T0.out, cell_kept k3 T1.out, cell_kept k3 T2.out⟩)
      (first
        | (go_at_call 60; refine (IH.out.at2 r (.node d' s' l' r') n2 HN2.out A2 (some ad') c2 c' B _ hsz (by omega) O3.out OB.out P.out.right (by simp; omega) (by exact S2.out.kept (by omega) ((Kept.refl 0 0 w1).drew) (.inl (Nat.le_refl _))) (by exact HX.out.kept (by omega) ((Kept.refl 0 0 w1).drew) (.inl (Nat.le_refl _)))).mono ?_; rintro e w2 ⟨D, d2, rfl, ho, hk⟩; have k2 : Kept 0 0 w1 w2 := (Kept.refl 0 0 w1).drew.trans hk; have S3 := (OwnZ.sl (R := twR) ho).2; have z2 := k2.size; clear hk ho)
        | (go_at_call 73; refine (join_any ⟨d, s, l.size⟩ l.pre (mergeT r (.node d' s' l' r')).pre A1 D c1 d2 w2.heap.size _ (Nat.le_refl _) (by exact (S1.out.kept (by omega) k2 (.inl (Nat.le_refl _))).wide (by omega)) (by exact S3) (by rw [HL1.out, HL2.out]; exact hsm)).mono ?_; rintro e w3 ⟨D3, d3, rfl, ho, hk⟩; have k3 : Kept 0 0 w1 w3 := k2.trans hk; have O4 := ho; clear hk ho))
    all_goals go_wp2
    all_goals go_ret
    all_goals (rw [EM.out, ← EJ.out]; exact ⟨D3, d3, rfl, O4.wide (by omega) (Nat.le_refl _), K1.out.trans k3⟩)

theorem merge_does (n : Nat) : MergeDoes n := by
  induction n with
  | zero =>
    intro ta tb A A' c c' B w hn hn2 h1 h2 hp hB hs hs'
    cases ta with
    | nil => exact merge_left tb A A' c c' B w (by omega) hB hs'
    | node => simp [HTree.size] at hn
  | succ n ih =>
    intro ta tb A A' c c' B w hn hn2 h1 h2 hp hB hs hs'
    cases ta with
    | nil => exact merge_left tb A A' c c' B w (by omega) hB hs'
    | node d s l r =>
      cases tb with
      | nil => exact merge_right d s l r A A' c c' B w (by omega) hB hs
      | node d' s' l' r' => exact merge_node ih d s d' s' l r l' r' A A' c c' B w hn hn2 h1 h2 hp hB hs hs'
theorem merge_any (ta tb : HTree) (A A' : Option Addr) (c c' B : Nat) (w : World) (hn : ta.size + tb.size ≤ 1000) (h1 : ta.ok = true) (h2 : tb.ok = true) (hp : apart ta tb) (hB : B ≤ w.heap.size) (hs : SL twR w B A c ta.pre) (hs' : SL twR w B A' c' tb.pre) :
    Calls Try.prog 60 #[.slice A ta.pre.length c, .slice A' tb.pre.length c'] w (NewTw (mergeT ta tb).pre w) := merge_does _ ta tb A A' c c' B w (Nat.le_refl _) hn h1 h2 hp hB hs hs'
end Go.Proofs.Ytnphjohmkjoefaa
