/- The program's deferringOf: valid Afters in memory, or no; condition: the afters can be read. -/
import Derived.Test.YtnnbfcmbcjkpoaaCu
namespace Go.Proofs.Ytnnbfcmbcjkpoaa
open Go.RowKit Go.Sort

theorem nodup_bound : ∀ (n : Nat) (l : List Nat), l.Nodup → (∀ x ∈ l, x < n) → l.length ≤ n
  | 0, l, _, h => by
    cases l with
    | nil => simp
    | cons x r => have := h x (by simp); omega
  | n + 1, l, hn, h => by
    by_cases hm : n ∈ l
    · have h1 := nodup_bound n (l.erase n) (hn.erase n) (fun x hx => by
        have h2 := (hn.mem_erase_iff).1 hx
        have := h x h2.2
        have := h2.1
        omega)
      rw [List.length_erase_of_mem hm] at h1
      omega
    · have := nodup_bound n l hn (fun x hx => by
        have h2 := h x hx
        have : x ≠ n := by rintro rfl; exact hm hx
        omega)
      omega
theorem aftB_eq (s : Slt) (x : Aft) : aftB s x = (slHolds s x.slot x.age && isAfB x) := rfl
theorem sameH_hnd {x y : Aft} : sameH x y = true ↔ hnd x = hnd y := by
  unfold sameH hnd
  simp
/-- So many functions as slots there are at most. -/
theorem PreA.bound {a : Afs} {n : Nat} (hp : PreA a n) (hn : n ≤ a.list.length) : n ≤ 64 := by
  have key : ∀ i (hi : i < a.list.length), i < n → ∃ k : Nat, a.list[i].slot = k ∧ k < a.slots.ages.length ∧ a.slots.ages.length ≤ 64 ∧ a.slots.ages[k]? = some a.list[i].age := by
    intro i hi hin
    have h1 := (hp i hi hin).1
    rw [aftB_eq] at h1
    simp only [Bool.and_eq_true] at h1
    have h2 : holdsB a.slots.ages a.slots.used a.list[i].slot a.list[i].age = true := h1.1
    obtain ⟨hb, k, e, g1, g2, he, _⟩ := holds_yes h2
    exact ⟨k, e, g1, (slotsOk_len hb).2.1, by rw [List.getElem?_eq_getElem g1, he]⟩
  have hl : ((a.list.take n).map fun x => x.slot.toNat).length = n := by simp; omega
  rw [← hl]
  refine nodup_bound 64 _ ?_ ?_
  · rw [List.nodup_iff_pairwise_ne, List.pairwise_iff_getElem]
    intro i j hi hj hij e
    simp only [List.length_map, List.length_take] at hi hj
    simp only [List.getElem_map, List.getElem_take] at e
    obtain ⟨k, e1, k1, _, k2⟩ := key i (by omega) (by omega)
    obtain ⟨k', e1', k1', _, k2'⟩ := key j (by omega) (by omega)
    have hk : k = k' := by rw [e1, e1'] at e; simpa using e
    subst hk
    have ha : a.list[i].age = a.list[j].age := by rw [k2] at k2'; injection k2'
    have := (hp j (by omega) (by omega)).2 i hij
    have h3 : sameH a.list[i] a.list[j] = true := sameH_hnd.2 (by unfold hnd; rw [e1, e1', ha])
    rw [h3] at this
    cases this
  · intro x hx
    obtain ⟨y, hy, rfl⟩ := List.mem_map.1 hx
    obtain ⟨i, hi, rfl⟩ := List.getElem_of_mem hy
    simp only [List.length_take] at hi
    obtain ⟨k, e1, k1, k3, _⟩ := key i (by omega) (by omega)
    rw [List.getElem_take, e1]
    simp; omega

/-- What deferringOf returns. -/
def DfPost (w : World) (a : Afs) (e : Ending) (w' : World) : Prop := ∃ p, e = .returned (.tuple #[p, .bool (aftersB a)]) ∧ Kept 0 0 w w' ∧
  (aftersB a = true → ∃ g m A1 c1 A2 c2 A3 c3 ps, p = .pointer (some ⟨g, 0, none⟩) ∧ Dfr w' w.heap.size g m A1 c1 A2 c2 A3 c3 a.slots (ps.map fun p => hnd p.1) ps ∧ ps.map Prod.fst = a.list)
theorem implCopyS (t : Slt) (v : Value) (w : World) (h : RdSl w w.heap.size v t) (hb : slB t = true) :
    Calls Try.prog 62 #[v] w fun e w' => ∃ z, e = .returned z ∧ OwnSl w' w.heap.size w'.heap.size z t ∧ Kept 0 0 w w' := by
  obtain ⟨A, c, A', c', rfl, hr⟩ := h.parts
  have hl := slB_len hb
  exact (copyImpl_any _ _ _ _ _ _ _ w (Nat.le_refl _) hr hl.1 hl.2.1 hl.2.2).mono fun e w' ⟨D, D', d, d', he, ho, hk⟩ => ⟨_, he, ho.one, hk⟩

set_option maxHeartbeats 6400000 in
set_option maxRecDepth 100000 in
theorem deferringOf_any (a : Afs) (v : Value) (w : World) (h : RdAs w w.heap.size v a) :
    Calls Try.prog 35 #[v] w (DfPost w a) := by
  have HA := Lib.hid h
  obtain ⟨_, _, _, rfl, ⟨A1, c1, rfl, s1⟩, ⟨A2, c2, rfl, s2⟩, ⟨A3, c3, rfl, s3⟩⟩ := h
  have m3 := s3.rd.1
  unfold maxLen at m3
  have S3 := Lib.hid s3.rd
  clear s1 s2 s3
  obtain ⟨W, hW⟩ : ∃ W, W = w.alloc (.cells #[.slice A1 a.slots.ages.length c1, .slice A2 a.slots.used.length c2, .slice A3 a.list.length c3] 34) := ⟨_, rfl⟩
  have KW : Hid (Kept 0 0 w W) := by show Kept _ _ _ _; rw [hW]; exact Kept.alloc0 _ _
  have B0 : Hid (Blk W w.heap.size 34 #[.slice A1 a.slots.ages.length c1, .slice A2 a.slots.used.length c2, .slice A3 a.list.length c3]) := by show Blk _ _ _ _; rw [hW]; exact Blk.new _ _ _
  have zW : w.heap.size + 1 ≤ W.heap.size := by rw [hW]; simp
  have HW := Lib.hid hW
  clear hW
  have RS : Hid (∀ X, Kept 0 0 w X → RdSl X X.heap.size (.agg #[.slice A1 a.slots.ages.length c1, .slice A2 a.slots.used.length c2]) a.slots) := fun X hX => (HA.out.up hX).sl.1
  have CO := Lib.hid (implSl a.slots _ W (RS.out _ KW.out))
  have hmm := @run_makeMap Try.prog
  go_enter Try.func35, Try.ntmps35
  go_upto_region 1 with fail
  rw [← HW.out]
  have b0 : W.cell? ⟨w.heap.size, 0, none⟩ = some (.slice A1 a.slots.ages.length c1) := B0.out.cell 0
  have b1 : W.cell? ⟨w.heap.size, 1, none⟩ = some (.slice A2 a.slots.used.length c2) := B0.out.cell 1
  clear HW
  go_wp2_with fail
  with_reducible refine CO.out.mono ?_
  rintro e w1 ⟨rfl, hk⟩
  have K1 := Lib.hid (KW.out.trans hk)
  have B1 := Lib.hid (B0.out.kept hk (.inl (Nat.le_refl _)))
  have z1 := hk.size
  clear hk CO b0 b1 B0 KW
  cases q1 : slB a.slots
  · have E : Hid (aftersB a = false) := not_as_slots q1
    clear q1
    go_wp2
    exact bodyPost_ret (v := .tuple #[.pointer none, .bool false]) (by simp [results, Try.results35, go_sem]) rfl ⟨.pointer none, by rw [E.out], K1.out, fun h => by rw [E.out] at h; cases h⟩
  have Q1 := Lib.hid q1
  have CC := Lib.hid (implCopyS a.slots _ w1 (RS.out _ K1.out) q1)
  have b0 : w1.cell? ⟨w.heap.size, 0, none⟩ = some (.slice A1 a.slots.ages.length c1) := B1.out.cell 0
  have b1 : w1.cell? ⟨w.heap.size, 1, none⟩ = some (.slice A2 a.slots.used.length c2) := B1.out.cell 1
  clear q1
  go_wp2_with fail
  with_reducible refine CC.out.mono ?_
  rintro e w2 ⟨_, rfl, ⟨_, _, rfl, ⟨D1, d1, rfl, o1⟩, ⟨D2, d2, rfl, o2⟩⟩, hk⟩
  obtain ⟨V, hV⟩ : ∃ V, V = (w2.alloc (.map #[] 0)).alloc (.cells #[.slice D1 a.slots.ages.length d1, .slice D2 a.slots.used.length d2, .slice none 0 0, .map (some w2.heap.size)] 77) := ⟨_, rfl⟩
  have kV : Kept 0 0 w2 V := by rw [hV]; exact (Kept.alloc0 _ _).alloc _
  have zV : w2.heap.size + 2 ≤ V.heap.size := by rw [hV]; simp
  have z2 := hk.size
  have KV := Lib.hid (K1.out.trans (hk.trans kV))
  have BV := Lib.hid (B1.out.kept (hk.trans kV) (.inl (Nat.le_refl _)))
  have DV : Hid (Dfr V w.heap.size (w2.heap.size + 1) w2.heap.size D1 d1 D2 d2 none 0 a.slots [] []) := by
    refine ⟨by omega, ?_, (o1.kept kV (.inl (Nat.le_refl _))).wide (by omega) (by omega), (o2.kept kV (.inl (Nat.le_refl _))).wide (by omega) (by omega), World.ownsRow_nil _ _ _ _, by omega, ?_, by simp, by simp⟩
    · rw [hV]
      have := Blk.new (w2.alloc (.map #[] 0)) 77 #[.slice D1 a.slots.ages.length d1, .slice D2 a.slots.used.length d2, .slice none 0 0, .map (some w2.heap.size)]
      simpa using this
    · rw [hV]
      exact (MapAt.made w2).kept (Kept.alloc0 _ _) (.inl (Nat.le_refl _))
  have HV := Lib.hid hV
  clear hV kV o1 o2 hk CC b0 b1 B1 K1
  go_upto_region 4 with fail
  rw [← HV.out]
  have b2 : V.cell? ⟨w.heap.size, 2, none⟩ = some (.slice A3 a.list.length c3) := BV.out.cell 2
  clear HV
  go_wp2_with fail
  clear b2
  go_loopw [20] (fun i wr => ∃ (n : Nat) (A4 : Option Addr) (c4 : Nat) (ps : List (Aft × Nat)), n ≤ a.list.length ∧ i = .int .i64 n ∧ Hid (PreA a n) ∧ Hid (ps.map Prod.fst = a.list.take n) ∧ Hid (Dfr wr w.heap.size (w2.heap.size + 1) w2.heap.size D1 d1 D2 d2 A4 c4 a.slots (ps.map fun p => hnd p.1) ps) ∧ Hid (Kept 0 0 w wr)) (fun i _ => a.list.length - (intOf i).toNat)
  case atStart => exact ⟨0, none, 0, [], Nat.zero_le _, rfl, Lib.hid (PreA.zero a), Lib.hid (by simp), DV, KV⟩
  case round =>
    clear DV KV BV
    obtain ⟨n, A4, c4, ps, hn, rfl, HP, HPS, HD, HK⟩ := hrel
    by_cases hlt : n < a.list.length
    · have i1 : (n : Int) < (a.list.length : Int) := by omega
      obtain ⟨ad, rfl, _, e0, e1, e2, e3, e4⟩ := (S3.out.kept (Nat.le_refl _) HK.out (.inl (Nat.le_refl _))).af hlt
      obtain ⟨x, hx⟩ : ∃ x, x = a.list[n] := ⟨_, rfl⟩
      rw [← hx] at e0 e1 e2 e3 e4
      have HX := Lib.hid hx
      clear hx
      obtain ⟨X, hX⟩ : ∃ X, X = wr.alloc (.cells (afC x) 42) := ⟨_, rfl⟩
      have kX : Kept 0 0 wr X := by rw [hX]; exact Kept.alloc0 _ _
      have BX : Hid (Blk X wr.heap.size 42 (afC x)) := by show Blk _ _ _ _; rw [hX]; exact Blk.new _ _ _
      have DX := Lib.hid (HD.out.kept kX)
      have KX := Lib.hid (HK.out.trans kX)
      have zX := KX.out.size
      have HXX := Lib.hid hX
      unfold afC at HXX
      clear hX kX
      go_upto_region 7 with fail
      rw [← HXX.out]
      clear e0 e1 e2 e3 e4 HXX
      have x0 : X.cell? ⟨wr.heap.size, 0, none⟩ = some (.int .i64 x.slot) := BX.out.cell 0
      have x1 : X.cell? ⟨wr.heap.size, 1, none⟩ = some (.int .i64 x.age) := BX.out.cell 1
      have x2 : X.cell? ⟨wr.heap.size, 2, none⟩ = some (.int .i64 x.node) := BX.out.cell 2
      have x3 : X.cell? ⟨wr.heap.size, 3, none⟩ = some (.int .i64 x.func) := BX.out.cell 3
      have x4 : X.cell? ⟨wr.heap.size, 4, none⟩ = some (.bool x.queued) := BX.out.cell 4
      have g0 : X.cell? ⟨w2.heap.size + 1, 0, none⟩ = some (.slice D1 a.slots.ages.length d1) := DX.out.blk.cell 0
      have g1 : X.cell? ⟨w2.heap.size + 1, 1, none⟩ = some (.slice D2 a.slots.used.length d2) := DX.out.blk.cell 1
      have zg := DX.out.blk.lt
      have zx := BX.out.lt
      have k0 := cell_regrown x0
      have k1 := cell_regrown x1
      have k2 := cell_regrown x2
      have k3 := cell_regrown x3
      have k4 := cell_regrown x4
      have k5 := cell_regrown g0
      have k6 := cell_regrown g1
      have C1 := Lib.hid (fun d os => regrown_call (isAfter_any x (grow (redrawn X d) os)))
      have C2 := Lib.hid (fun d os => regrown_call (implHolds a.slots x.slot x.age _ (grow (redrawn X d) os) ((DX.out.kept (Kept.regrown X d os)).rdS)))
      have C3 : Hid (∀ (b : Bool), (b = true → ∃ k, k < n ∧ AtH ps (hnd x) k) → (b = false → NoKey (kvOf ps) (hnd x)) → ∀ d os, Calls Try.prog 39 #[.pointer (some ⟨w2.heap.size + 1, 0, none⟩), .agg #[.int .i64 x.slot, .int .i64 x.age]] (grow (redrawn X d) os) fun e w'' => e = .returned (.bool b) ∧ ∃ p : Regrown, w'' = grow (redrawn X p.d) p.os) := by
        intro b h1 h2 d os
        cases b
        · exact regrown_call (has_no (DX.out.kept (Kept.regrown X d os)) (hnd x) (h2 rfl))
        · obtain ⟨k, _, hk⟩ := h1 rfl
          exact regrown_call (has_yes (DX.out.kept (Kept.regrown X d os)) (hnd x) k hk.key)
      clear x0 x1 x2 x3 x4 g0 g1
      unfold afC at C1
      cases q1 : isAfB x
      · rw [q1] at C1
        have E : Hid (aftersB a = false) := not_as_each hlt (by rw [← HX.out, aftB_eq, q1, Bool.and_false])
        clear q1 C3
        refine wp_region_quiet_below (by kernel_rfl) (by kernel_rfl) ?_
        repeat (first | go_big_quiet_step (first | with_reducible exact C1.out _ _ | with_reducible exact C2.out _ _) | quiet_step (first | with_reducible exact C1.out _ _ | with_reducible exact C2.out _ _))
        refine wpQuiet_nil ?_
        intro _ hw'
        obtain ⟨⟨dq, osq⟩, hw''⟩ := hw'
        subst hw''
        go_wp2
        exact bodyPost_ret (v := .tuple #[.pointer none, .bool false]) (by simp [results, Try.results35, go_sem]) rfl ⟨.pointer none, by rw [E.out], KX.out.trans (Kept.regrown X dq osq), fun h => by rw [E.out] at h; cases h⟩
      rw [q1] at C1
      cases q2 : slHolds a.slots x.slot x.age
      · rw [q2] at C2
        have E : Hid (aftersB a = false) := not_as_each hlt (by rw [← HX.out, aftB_eq, q2, Bool.false_and])
        clear q1 q2 C3
        refine wp_region_quiet_below (by kernel_rfl) (by kernel_rfl) ?_
        repeat (first | go_big_quiet_step (first | with_reducible exact C1.out _ _ | with_reducible exact C2.out _ _) | quiet_step (first | with_reducible exact C1.out _ _ | with_reducible exact C2.out _ _))
        refine wpQuiet_nil ?_
        intro _ hw'
        obtain ⟨⟨dq, osq⟩, hw''⟩ := hw'
        subst hw''
        go_wp2
        exact bodyPost_ret (v := .tuple #[.pointer none, .bool false]) (by simp [results, Try.results35, go_sem]) rfl ⟨.pointer none, by rw [E.out], KX.out.trans (Kept.regrown X dq osq), fun h => by rw [E.out] at h; cases h⟩
      rw [q2] at C2
      have EA : Hid (aftB a.slots a.list[n] = true) := by show _ = _; rw [← HX.out, aftB_eq, q1, q2]; rfl
      clear q1 q2
      have PL : Hid (ps.length = n) := by show _ = _; have := congrArg List.length HPS.out; simpa [Nat.min_eq_left hn] using this
      have PE : Hid (∀ k (hk : k < ps.length) (hk2 : k < a.list.length), ps[k].1 = a.list[k]) := by
        intro k hk hk2
        have := congrArg (fun l => l[k]?) HPS.out
        simp only [List.getElem?_map, List.getElem?_eq_getElem hk, Option.map_some] at this
        rw [List.getElem?_take_of_lt (by rw [← PL.out]; exact hk), List.getElem?_eq_getElem hk2] at this
        injection this
      by_cases q3 : ∃ k, ∃ hk : k < n, sameH (a.list[k]'(by omega)) a.list[n] = true
      · obtain ⟨k, hk, hs⟩ := q3
        have E : Hid (aftersB a = false) := not_as_diff hlt hk hs
        have hnd3 : (ps.map fun p => hnd p.1).Nodup := by
          rw [List.nodup_iff_pairwise_ne, List.pairwise_iff_getElem]
          intro i j hi hj hij e
          simp only [List.length_map] at hi hj
          simp only [List.getElem_map] at e
          rw [PE.out i hi (by have := PL.out; omega), PE.out j hj (by have := PL.out; omega)] at e
          have h1 := (HP.out j (by have := PL.out; omega) (by have := PL.out; omega)).2 i hij
          rw [sameH_hnd.2 e] at h1
          cases h1
        have C4 := Lib.hid (C3.out true (fun _ => ⟨k, hk, by have := AtH.of_nodup hnd3 (i := k) (by have := PL.out; omega); rwa [PE.out k _ (by omega), sameH_hnd.1 hs, ← HX.out] at this⟩) (fun h => by cases h))
        clear hs hnd3 C3
        refine wp_region_quiet_below (by kernel_rfl) (by kernel_rfl) ?_
        repeat (first | go_big_quiet_step (first | with_reducible exact C1.out _ _ | with_reducible exact C2.out _ _ | with_reducible exact C4.out _ _) | quiet_step (first | with_reducible exact C1.out _ _ | with_reducible exact C2.out _ _ | with_reducible exact C4.out _ _))
        refine wpQuiet_nil ?_
        intro _ hw'
        obtain ⟨⟨dq, osq⟩, hw''⟩ := hw'
        subst hw''
        go_wp2
        exact bodyPost_ret (v := .tuple #[.pointer none, .bool false]) (by simp [results, Try.results35, go_sem]) rfl ⟨.pointer none, by rw [E.out], KX.out.trans (Kept.regrown X dq osq), fun h => by rw [E.out] at h; cases h⟩
      have PD : Hid (PreD a n hlt n) := fun k hk _ => by
        cases h : sameH (a.list[k]'(by omega)) a.list[n]
        · rfl
        · exact absurd ⟨k, hk, h⟩ q3
      have NK : Hid (NoKey (kvOf ps) (hnd x)) := by
        intro p hp e
        obtain ⟨y, hy, rfl⟩ := List.mem_map.1 hp
        obtain ⟨k, hk, rfl⟩ := List.getElem_of_mem hy
        have hk2 : k < n := by have := PL.out; omega
        refine q3 ⟨k, hk2, sameH_hnd.2 ?_⟩
        rw [← PE.out k hk (by omega), ← HX.out]
        exact e
      have C4 := Lib.hid (C3.out false (fun h => by cases h) (fun _ => NK.out))
      clear q3 C3
      refine wp_region_quiet_below (by kernel_rfl) (by kernel_rfl) ?_
      repeat (first | go_big_quiet_step (first | with_reducible exact C1.out _ _ | with_reducible exact C2.out _ _ | with_reducible exact C4.out _ _) | quiet_step (first | with_reducible exact C1.out _ _ | with_reducible exact C2.out _ _ | with_reducible exact C4.out _ _))
      refine wpQuiet_nil ?_
      intro _ hw'
      obtain ⟨⟨dq, osq⟩, hw''⟩ := hw'
      subst hw''
      obtain ⟨Y, hY⟩ : ∃ Y, Y = grow (redrawn X dq) osq := ⟨_, rfl⟩
      have kY : Kept 0 0 X Y := by rw [hY]; exact Kept.regrown _ _ _
      have BY := Lib.hid (BX.out.kept kY (.inl (Nat.le_refl _)))
      have DY := Lib.hid (DX.out.kept kY)
      have KY := Lib.hid (KX.out.trans kY)
      rw [← hY]
      clear hY kY k0 k1 k2 k3 k4 k5 k6 C1 C2 C4 BX DX KX
      have P2 : Hid (PreA a (n + 1)) := HP.out.succ hlt EA.out PD.out
      have b64 := P2.out.bound (by omega)
      have CA := Lib.hid (add_any DY.out x NK.out (by simp; have := PL.out; omega) KY.out.size)
      unfold afC at CA
      have x0 : Y.cell? ⟨wr.heap.size, 0, none⟩ = some (.int .i64 x.slot) := BY.out.cell 0
      have x1 : Y.cell? ⟨wr.heap.size, 1, none⟩ = some (.int .i64 x.age) := BY.out.cell 1
      have x2 : Y.cell? ⟨wr.heap.size, 2, none⟩ = some (.int .i64 x.node) := BY.out.cell 2
      have x3 : Y.cell? ⟨wr.heap.size, 3, none⟩ = some (.int .i64 x.func) := BY.out.cell 3
      have x4 : Y.cell? ⟨wr.heap.size, 4, none⟩ = some (.bool x.queued) := BY.out.cell 4
      go_wp2_with fail
      with_reducible refine CA.out.mono ?_
      rintro e w3 ⟨rfl, D5, d5, bb, hd5, hb5, _⟩
      have D6 : Hid (Dfr w3 w.heap.size (w2.heap.size + 1) w2.heap.size D1 d1 D2 d2 D5 d5 a.slots ((ps ++ [(x, bb)]).map fun p => hnd p.1) (ps ++ [(x, bb)])) := by
        show Dfr _ _ _ _ _ _ _ _ _ _ _ _ _
        rw [List.map_append]
        exact hd5
      have K6 : Hid (Kept 0 0 w w3) := Kept.of_below ((KY.out.below (Nat.le_refl _) (.inl (Nat.le_refl _))).trans hb5) _ _
      have PS2 : Hid ((ps ++ [(x, bb)]).map Prod.fst = a.list.take (n + 1)) := by
        show _ = _
        rw [List.map_append, HPS.out, List.take_succ_eq_append_getElem hlt, ← HX.out]
        rfl
      clear hd5 hb5 x0 x1 x2 x3 x4 CA
      go_wp2_with fail
      go_roundw
      case rel => exact ⟨n + 1, D5, d5, _, by omega, by go_num, P2, PS2, D6, K6⟩
      case measure => simp [intOf]; omega
    · have hnn : n = a.list.length := by omega
      have PL : Hid ((ps.map fun p => hnd p.1).length = a.list.length) := by show _ = _; have := congrArg List.length HPS.out; simp at this; simp; omega
      have i1 : ¬ (n : Int) < (a.list.length : Int) := by omega
      have g0 : wr.cell? ⟨w2.heap.size + 1, 0, none⟩ = some (.slice D1 a.slots.ages.length d1) := HD.out.blk.cell 0
      have g1 : wr.cell? ⟨w2.heap.size + 1, 1, none⟩ = some (.slice D2 a.slots.used.length d2) := HD.out.blk.cell 1
      have g2 : wr.cell? ⟨w2.heap.size + 1, 2, none⟩ = some (.slice A4 a.list.length c4) := by have := HD.out.blk.cell 2; rw [PL.out] at this; exact this
      have k0 := cell_regrown g0
      have k1 := cell_regrown g1
      have k2 := cell_regrown g2
      have zg := HD.out.blk.lt
      obtain ⟨us, hus⟩ : ∃ us, us = slUsed a.slots := ⟨_, rfl⟩
      have C1 := Lib.hid (fun d os => regrown_call (implUsed a.slots _ (grow (redrawn wr d) os) ((HD.out.kept (Kept.regrown wr d os)).rdS)))
      rw [← hus] at C1
      have HUS := Lib.hid hus
      have HNN := Lib.hid hnn
      clear g0 g1 g2 hus hnn
      go_upto_region 11 with fail
      by_cases q : (a.list.length : Int) = us
      · have E : Hid (aftersB a = true) := HP.out.all Q1.out (by rw [← HUS.out]; exact q) (by rw [HNN.out]; exact Nat.le_refl _)
        have gq : ((a.list.length : Int) == us) = true := by simpa using q
        clear q
        refine wp_region_quiet_below (by kernel_rfl) (by kernel_rfl) ?_
        repeat (first | go_big_quiet_step (with_reducible exact C1.out _ _) | quiet_step (with_reducible exact C1.out _ _))
        refine wpQuiet_nil ?_
        intro _ hw'
        obtain ⟨⟨dq, osq⟩, hw''⟩ := hw'
        subst hw''
        go_wp2
        exact bodyPost_ret (v := .tuple #[.pointer (some ⟨w2.heap.size + 1, 0, none⟩), .bool true]) (by simp [results, Try.results35, go_sem]) rfl ⟨_, by rw [E.out], HK.out.trans (Kept.regrown wr dq osq), fun _ => ⟨_, _, _, _, _, _, _, _, ps, rfl, HD.out.kept (Kept.regrown wr dq osq), by rw [HPS.out, HNN.out, List.take_of_length_le (Nat.le_refl _)]⟩⟩
      · have E : Hid (aftersB a = false) := not_as_count (by rw [← HUS.out]; exact q)
        have gq : ((a.list.length : Int) == us) = false := by simpa using q
        clear q
        refine wp_region_quiet_below (by kernel_rfl) (by kernel_rfl) ?_
        repeat (first | go_big_quiet_step (with_reducible exact C1.out _ _) | quiet_step (with_reducible exact C1.out _ _))
        refine wpQuiet_nil ?_
        intro _ hw'
        obtain ⟨⟨dq, osq⟩, hw''⟩ := hw'
        subst hw''
        go_wp2
        exact bodyPost_ret (v := .tuple #[.pointer (some ⟨w2.heap.size + 1, 0, none⟩), .bool false]) (by simp [results, Try.results35, go_sem]) rfl ⟨_, by rw [E.out], HK.out.trans (Kept.regrown wr dq osq), fun h => by rw [E.out] at h; cases h⟩
end Go.Proofs.Ytnnbfcmbcjkpoaa
