/- The reference's Sorted returns the elements with those ahead first, in new memory; no condition beyond that the slice can be read. -/
import Derived.Test.YtggggdloppnopaaSt
namespace Go.Proofs.Ytggggdloppnopaa
open Go.RowKit Go.Sort

/-- x can stand behind the first k of S. -/
def candB (S : List Tw) (k : Nat) (x : Tw) : Bool := decide (k = 0) || aheadB (S.getD (k - 1) ⟨0, 0, 0⟩) x
/-- The best of the first i elements. -/
structure BestOf (h S : List Tw) (k i : Nat) (hv : Bool) (b : Tw) : Prop where
  no : hv = false → ∀ x ∈ (h.take i).map zero, candB S k x = false
  yes : hv = true → b ∈ (h.take i).map zero ∧ candB S k b = true ∧ ∀ x ∈ (h.take i).map zero, candB S k x = true → x = b ∨ aheadB b x = true
theorem BestOf.start (h S : List Tw) (k : Nat) (b : Tw) : BestOf h S k 0 false b := ⟨fun _ x hx => by simp at hx, fun hv => by cases hv⟩
theorem take_zero_succ {h : List Tw} {i : Nat} (hi : i < h.length) (x : Tw) : x ∈ (h.take (i + 1)).map zero ↔ x ∈ (h.take i).map zero ∨ x = zero h[i] := by
  rw [List.take_succ_eq_append_getElem hi, List.map_append, List.mem_append]; simp
theorem BestOf.put {h S : List Tw} {k i : Nat} {hv : Bool} {b : Tw} (hb : BestOf h S k i hv b) (hi : i < h.length) (hc : candB S k (zero h[i]) = true) (ha : hv = true → aheadB (zero h[i]) b = true) : BestOf h S k (i + 1) true (zero h[i]) := by
  refine ⟨fun h => (by cases h), fun _ => ⟨(take_zero_succ hi _).2 (.inr rfl), hc, fun x hx hcx => ?_⟩⟩
  rcases (take_zero_succ hi x).1 hx with hx | rfl
  · cases hv with
    | false => rw [hb.no rfl x hx] at hcx; cases hcx
    | true =>
      rcases (hb.yes rfl).2.2 x hx hcx with rfl | h2
      · exact .inr (ha rfl)
      · exact .inr (ahead_trans (ha rfl) h2)
  · exact .inl rfl
theorem zero_lefts {h : List Tw} {x : Tw} (hx : x ∈ h.map zero) : x.lefts = 0 := by
  obtain ⟨y, _, rfl⟩ := List.mem_map.1 hx; rfl
theorem zero_tot {a b : Tw} (ha : a.lefts = 0) (hb : b.lefts = 0) (h : aheadB a b = false) : a = b ∨ aheadB b a = true := by
  have h' : ¬ (a.due < b.due ∨ (a.due = b.due ∧ a.seq < b.seq)) := by rw [← ahead_iff, h]; simp
  rw [ahead_iff]
  by_cases e : a.due = b.due ∧ a.seq = b.seq
  · left; rw [Tw.ext_iff']; exact ⟨e.1, e.2, by omega⟩
  · right; omega
theorem BestOf.keep {h S : List Tw} {k i : Nat} {hv : Bool} {b : Tw} (hb : BestOf h S k i hv b) (hi : i < h.length) (hc : candB S k (zero h[i]) = false ∨ (hv = true ∧ aheadB (zero h[i]) b = false)) : BestOf h S k (i + 1) hv b := by
  refine ⟨fun hf x hx => ?_, fun hy => ⟨(take_zero_succ hi _).2 (.inl (hb.yes hy).1), (hb.yes hy).2.1, fun x hx hcx => ?_⟩⟩
  · rcases (take_zero_succ hi x).1 hx with hx | rfl
    · exact hb.no hf x hx
    · rcases hc with hc | ⟨hc, _⟩
      · exact hc
      · rw [hf] at hc; cases hc
  · rcases (take_zero_succ hi x).1 hx with hx | rfl
    · exact (hb.yes hy).2.2 x hx hcx
    · rcases hc with hc | ⟨_, hc⟩
      · rw [hc] at hcx; cases hcx
      · exact zero_tot rfl (zero_lefts (hb.yes hy).1) hc
/-- What is best of all is the next one. -/
theorem BestOf.all {h S : List Tw} {k i : Nat} {hv : Bool} {b : Tw} (hb : BestOf h S k i hv b) (hi : h.length ≤ i) (hS : Sorts S) (hp : S.Perm (h.map zero)) (hk : k < S.length) : hv = true ∧ b = S[k] := by
  have ht : (h.take i).map zero = h.map zero := by rw [List.take_of_length_le hi]
  have hin : S[k] ∈ (h.take i).map zero := by rw [ht]; exact hp.subset (List.getElem_mem hk)
  have hlt := List.pairwise_iff_getElem.1 hS
  have hc : candB S k S[k] = true := by
    unfold candB
    rcases Nat.eq_zero_or_pos k with h0 | h0
    · simp [h0]
    · have : S.getD (k - 1) ⟨0, 0, 0⟩ = S[k - 1]'(by omega) := by simp [List.getD_eq_getElem?_getD, List.getElem?_eq_getElem (show k - 1 < S.length by omega)]
      rw [this, hlt (k - 1) k (by omega) hk (by omega)]; simp
  have hv1 : hv = true := by
    cases hv with
    | true => rfl
    | false => rw [hb.no rfl _ hin] at hc; cases hc
  refine ⟨hv1, ?_⟩
  obtain ⟨b1, b2, b3⟩ := hb.yes hv1
  rw [ht] at b1
  obtain ⟨j, hj, hbj⟩ := List.getElem_of_mem (hp.symm.subset b1)
  have hkj : k ≤ j := by
    rcases Nat.lt_or_ge j k with h' | h'
    · exfalso
      unfold candB at b2
      have : S.getD (k - 1) ⟨0, 0, 0⟩ = S[k - 1]'(by omega) := by simp [List.getD_eq_getElem?_getD, List.getElem?_eq_getElem (show k - 1 < S.length by omega)]
      rw [this, ← hbj] at b2
      have hk0 : decide (k = 0) = false := by simp; omega
      rw [hk0, Bool.false_or] at b2
      rcases Nat.lt_or_ge j (k - 1) with h2 | h2
      · rw [ahead_asymm (hlt j (k - 1) hj (by omega) h2)] at b2; cases b2
      · have : j = k - 1 := by omega
        subst this
        rw [ahead_irrefl] at b2; cases b2
    · exact h'
  rcases b3 _ hin hc with e | e
  · exact e.symm
  · rcases Nat.lt_or_ge k j with h' | h'
    · rw [← hbj] at e
      rw [ahead_asymm (hlt k j hk hj h')] at e; cases e
    · have : j = k := by omega
      subst this
      exact hbj.symm

noncomputable def sortedL (h : List Tw) : List Tw := if heapOkB h then sortT (treeOf h) else []

theorem ahead_raw (d s z d' s' z' : Int) (w : World) :
    Calls Try.prog 62 #[.agg #[.int .i64 d, .int .i64 s, .int .i64 z], .agg #[.int .i64 d', .int .i64 s', .int .i64 z']] w fun e w' => e = .returned (.bool (aheadB ⟨d, s, z⟩ ⟨d', s', z'⟩)) ∧ Kept 0 0 w w' := ahead_any ⟨d, s, z⟩ ⟨d', s', z'⟩ w
def slLen : Value → Nat | .slice _ n _ => n | _ => 0
theorem own_take_succ {S : List Tw} {k : Nat} (hk : k < S.length) : S.take (k + 1) = S.take k ++ [S[k]] := List.take_succ_eq_append_getElem hk

theorem row_set3 {w : World} {base e k n c g : Nat} {D : Option Addr} {xs : List Value} (h : w.ownsRow base e k (.slice D n c) n xs) (hg : ∀ b, rowAt D = some b → b < g) (x y z : Value) :
    (((w.setCell ⟨g, 0, none⟩ x).setCell ⟨g, 1, none⟩ y).setCell ⟨g, 2, none⟩ z).ownsRow base e k (.slice D n c) n xs := by
  have hne : (Value.slice D n c).ownBlock ≠ some g := by
    rw [rowAt_eq]; intro e
    have := hg g e
    omega
  exact ownsRow_setCell_other (ownsRow_setCell_other (ownsRow_setCell_other h hne _) hne _) hne _

set_option maxHeartbeats 6400000 in
theorem sortedSpec_ok (h S : List Tw) (A : Option Addr) (c B : Nat) (w : World) (hB : B ≤ w.heap.size) (hs : SL twR w B A c h) (ho : heapOkB h = true) (hS : Sorts S) (hp : S.Perm (h.map zero)) :
    Calls Try.prog 39 #[.slice A h.length c] w (NewTw S w) := by
  have hlen : S.length = h.length := by have := hp.length_eq; simpa using this
  have hl64 := (heapOk_iff.1 ho).1
  have H := Lib.hid hs
  have HO := Lib.hid ho
  have HSO := Lib.hid hS
  have HP := Lib.hid hp
  have HL := Lib.hid hlen
  have HT := Lib.hid twSlice
  clear hs ho hS hp hlen
  have K0 := Lib.hid (Kept.alloc0 w (.cells #[] 35))
  have O0 := Lib.hid (own_empty3 w)
  go_enter Try.func39, Try.ntmps39
  go_wp2_with fail
  with_reducible refine (okSpec_any h _ _ B _ (by simp; omega) (H.out.kept hB K0.out (.inl (Nat.le_refl _)))).mono ?_
  rintro e w1 ⟨rfl, hk⟩
  have K1 := Lib.hid (K0.out.trans hk)
  have O1 := Lib.hid (row_kept O0.out hk)
  clear hk K0 O0
  rw [HO.out]
  go_wp2_with fail
  go_loopw [3] (fun v wr => ∃ (k : Nat) (D : Option Addr) (d : Nat), k ≤ h.length ∧ v = .slice D k d ∧ Hid (wr.ownsRow w.heap.size 35 3 (.slice D k d) k (twR.flat (S.take k))) ∧ Hid (Kept 0 0 w wr)) (fun v _ => h.length - slLen v)
  case atStart => exact ⟨0, _, 0, Nat.zero_le _, rfl, O1, K1⟩
  case round =>
    clear O1 K1
    obtain ⟨k, D, d, hk, rfl, HR, HK⟩ := hrel
    have hcap := (OwnZ.of_row HR.out).cap
    unfold maxLen at hcap
    by_cases hlt : k < h.length
    · have i1 : (k : Int) < (h.length : Int) := by omega
      have kS : k < S.length := by have := HL.out; omega
      have KS := Lib.hid kS
      clear kS
      go_wp2_with fail
      obtain ⟨V, hV⟩ : ∃ V, V = wr.alloc (.cells #[.int .i64 0, .int .i64 0, .int .i64 0] 35) := ⟨_, rfl⟩
      have BV : Hid (Blk V wr.heap.size 35 #[.int .i64 0, .int .i64 0, .int .i64 0]) := by show Blk _ _ _ _; rw [hV]; exact Blk.new _ _ _
      have KV : Hid (Kept 0 0 w V) := by show Kept _ _ _ _; rw [hV]; exact HK.out.alloc _
      have RV : Hid (V.ownsRow w.heap.size 35 3 (.slice D k d) k (twR.flat (S.take k))) := by show World.ownsRow _ _ _ _ _ _ _; rw [hV]; exact HR.out.alloc _
      have gD := Lib.hid (fun g hg => (own_row_lo HR.out g hg).2)
      have zw := HK.out.size
      rw [← hV]
      clear hV
      obtain ⟨gb, hgb⟩ : ∃ gb, gb = wr.heap.size := ⟨_, rfl⟩
      rw [← hgb]
      rw [← hgb] at BV gD zw
      clear hgb
      go_loopw [5, 6] (fun hv i wx => ∃ (j : Nat) (b : Bool) (bt : Tw), j ≤ h.length ∧ i = .int .i64 j ∧ hv = .bool b ∧ Hid (BestOf h S k j b bt) ∧ Hid (Blk wx gb 35 #[.int .i64 bt.due, .int .i64 bt.seq, .int .i64 bt.lefts]) ∧ Hid (wx.ownsRow w.heap.size 35 3 (.slice D k d) k (twR.flat (S.take k))) ∧ Hid (Kept 0 0 w wx)) (fun _ i _ => h.length - (intOf i).toNat)
      case atStart => exact ⟨0, false, ⟨0, 0, 0⟩, Nat.zero_le _, rfl, rfl, Lib.hid (BestOf.start _ _ _ _), BV, RV, KV⟩
      case round =>
        clear BV KV RV HR HK
        obtain ⟨j, b, bt, hj, rfl, rfl, HBE, HBX, HR, HK⟩ := hrel
        by_cases hjl : j < h.length
        · have i2 : (j : Int) < (h.length : Int) := by omega
          obtain ⟨ad, rfl, hab, c0, c1, c2⟩ := (H.out.rd.kept hB HK.out (.inl (Nat.le_refl _))).tw hjl
          have d0 := cell_kept (Kept.alloc0 wr (.cells #[.int .i64 0, .int .i64 0, .int .i64 0] 35)) c0
          have d1 := cell_kept (Kept.alloc0 wr (.cells #[.int .i64 0, .int .i64 0, .int .i64 0] 35)) c1
          go_wp2_with fail
          go_region
          obtain ⟨W, hW⟩ : ∃ W, W = (wr.alloc (.cells #[.int .i64 h[j].due, .int .i64 h[j].seq, .int .i64 0] 35)).drew := ⟨_, rfl⟩
          have XB : Hid (Blk W wr.heap.size 35 #[.int .i64 h[j].due, .int .i64 h[j].seq, .int .i64 0]) := by show Blk _ _ _ _; rw [hW]; exact (Blk.new _ _ _).drew
          have kw : Kept 0 0 wr W := by rw [hW]; exact (Kept.alloc0 _ _).drew
          rw [← hW]
          clear hW c0 c1 c2 d0 d1
          have HBX2 := Lib.hid (HBX.out.kept kw (.inl (Nat.le_refl _)))
          have RW := Lib.hid (row_kept HR.out kw)
          have KW := Lib.hid (HK.out.trans kw)
          clear kw HBX HR HK
          have k0 := cell_regrown (XB.out.cell 0)
          have k1 := cell_regrown (XB.out.cell 1)
          have k2 := cell_regrown (XB.out.cell 2)
          have k3 := cell_regrown (HBX2.out.cell 0)
          have k4 := cell_regrown (HBX2.out.cell 1)
          have k5 := cell_regrown (HBX2.out.cell 2)
          have CP := Lib.hid (fun x os => regrown_call (ahead_raw h[j].due h[j].seq 0 bt.due bt.seq bt.lefts (grow (redrawn W x) os)))
          cases k with
          | zero =>
            go_wp2_with fail
            cases b with
            | false =>
              have HB2 := Lib.hid (HBE.out.put hjl (by simp [candB]) (fun h => by cases h))
              refine wp_region_quiet_below (by kernel_rfl) (by kernel_rfl) ?_
              repeat (first | go_big_quiet_step (fail) | quiet_step (fail))
              refine wpQuiet_nil ?_
              intro _ hw'
              obtain ⟨⟨dq, osq⟩, hw''⟩ := hw'
              subst hw''
              have bbx := (Blk.kept HBX2.out (Kept.regrown W dq osq) (.inl (Nat.le_refl _)))
              have b0 := bbx.cell 0
              have b1 := bbx.cell 1
              have b2 := bbx.cell 2
              have f0 := bbx.frozen 0
              have f1 := bbx.frozen 1
              have f2 := bbx.frozen 2
              have xbx := (Blk.kept XB.out (Kept.regrown W dq osq) (.inl (Nat.le_refl _)))
              have x0 := xbx.cell 0
              have x1 := xbx.cell 1
              have x2 := xbx.cell 2
              have nb := Lib.hid (bbx.set3 (.int .i64 h[j].due) (.int .i64 h[j].seq) (.int .i64 0))
              have KN := Lib.hid ((KW.out.trans (Kept.regrown W dq osq)).set3 (.inl zw) (.int .i64 h[j].due) (.int .i64 h[j].seq) (.int .i64 0))
              have RN := Lib.hid (row_set3 (row_kept RW.out (Kept.regrown W dq osq)) gD.out (.int .i64 h[j].due) (.int .i64 h[j].seq) (.int .i64 0))
              clear k0 k1 k2 k3 k4 k5 CP bbx xbx
              go_wp2_with fail
              clear b0 b1 b2 f0 f1 f2 x0 x1 x2
              go_roundw
              case rel => exact ⟨j + 1, true, ⟨h[j].due, h[j].seq, 0⟩, by omega, by go_num, rfl, HB2, nb, RN, KN⟩
              case measure => simp [intOf]; omega
            | true =>
              cases ha : aheadB ⟨h[j].due, h[j].seq, 0⟩ ⟨bt.due, bt.seq, bt.lefts⟩
              · have HB2 := Lib.hid (HBE.out.keep hjl (.inr ⟨rfl, ha⟩))
                rw [ha] at CP
                clear ha
                refine wp_region_quiet_below (by kernel_rfl) (by kernel_rfl) ?_
                repeat (first | go_big_quiet_step (with_reducible exact CP.out _ _) | quiet_step (with_reducible exact CP.out _ _))
                refine wpQuiet_nil ?_
                intro _ hw'
                obtain ⟨⟨dq, osq⟩, hw''⟩ := hw'
                subst hw''
                clear k0 k1 k2 k3 k4 k5 CP
                go_wp2_with fail
                go_roundw
                case rel => exact ⟨j + 1, true, bt, by omega, by go_num, rfl, HB2, Lib.hid (Blk.kept HBX2.out (Kept.regrown W dq osq) (.inl (Nat.le_refl _))), Lib.hid (row_kept RW.out (Kept.regrown W dq osq)), Lib.hid (KW.out.trans (Kept.regrown W dq osq))⟩
                case measure => simp [intOf]; omega
              · have HB2 := Lib.hid (HBE.out.put hjl (by simp [candB]) (fun _ => ha))
                rw [ha] at CP
                clear ha
                refine wp_region_quiet_below (by kernel_rfl) (by kernel_rfl) ?_
                repeat (first | go_big_quiet_step (with_reducible exact CP.out _ _) | quiet_step (with_reducible exact CP.out _ _))
                refine wpQuiet_nil ?_
                intro _ hw'
                obtain ⟨⟨dq, osq⟩, hw''⟩ := hw'
                subst hw''
                have bbx := (Blk.kept HBX2.out (Kept.regrown W dq osq) (.inl (Nat.le_refl _)))
                have b0 := bbx.cell 0
                have b1 := bbx.cell 1
                have b2 := bbx.cell 2
                have f0 := bbx.frozen 0
                have f1 := bbx.frozen 1
                have f2 := bbx.frozen 2
                have xbx := (Blk.kept XB.out (Kept.regrown W dq osq) (.inl (Nat.le_refl _)))
                have x0 := xbx.cell 0
                have x1 := xbx.cell 1
                have x2 := xbx.cell 2
                have nb := Lib.hid (bbx.set3 (.int .i64 h[j].due) (.int .i64 h[j].seq) (.int .i64 0))
                have KN := Lib.hid ((KW.out.trans (Kept.regrown W dq osq)).set3 (.inl zw) (.int .i64 h[j].due) (.int .i64 h[j].seq) (.int .i64 0))
                have RN := Lib.hid (row_set3 (row_kept RW.out (Kept.regrown W dq osq)) gD.out (.int .i64 h[j].due) (.int .i64 h[j].seq) (.int .i64 0))
                clear k0 k1 k2 k3 k4 k5 CP bbx xbx
                go_wp2_with fail
                clear b0 b1 b2 f0 f1 f2 x0 x1 x2
                go_roundw
                case rel => exact ⟨j + 1, true, ⟨h[j].due, h[j].seq, 0⟩, by omega, by go_num, rfl, HB2, nb, RN, KN⟩
                case measure => simp [intOf]; omega
          | succ m =>
            have mS : m < S.length := by have := KS.out; omega
            obtain ⟨g, rfl, _⟩ : ∃ g, D = some ⟨g, 0, none⟩ ∧ True := by
              rcases (OwnZ.of_row RW.out).form with ⟨_, h0, _⟩ | ⟨g, e, _⟩
              · omega
              · exact ⟨g, e, trivial⟩
            have tl : m < (S.take (m + 1)).length := by rw [List.length_take]; omega
            obtain ⟨sm, hsm⟩ : ∃ sm, S[m] = sm := ⟨_, rfl⟩
            have te : (S.take (m + 1))[m]'tl = sm := by rw [← hsm]; simp
            have r0 := cell_regrown (own_at (R := twR) RW.out tl 0 (u := .int .i64 sm.due) (by rw [te]; rfl))
            have r1 := cell_regrown (own_at (R := twR) RW.out tl 1 (u := .int .i64 sm.seq) (by rw [te]; rfl))
            have r2 := cell_regrown (own_at (R := twR) RW.out tl 2 (u := .int .i64 sm.lefts) (by rw [te]; rfl))
            simp only [twR_k, Nat.add_zero] at r0 r1 r2
            have CO := Lib.hid (fun x os => regrown_call (ahead_raw sm.due sm.seq sm.lefts h[j].due h[j].seq 0 (grow (redrawn W x) os)))
            have ec : Hid (candB S (m + 1) (zero h[j]) = aheadB ⟨sm.due, sm.seq, sm.lefts⟩ ⟨h[j].due, h[j].seq, 0⟩) := by
              show _ = _
              simp only [candB, List.getD_eq_getElem?_getD, Nat.add_sub_cancel, List.getElem?_eq_getElem mS, hsm]
              rfl
            clear tl te hsm mS
            have gm : (((m : Int) + 1) == 0) = false := by simp; omega
            go_wp2_with fail
            cases hc : aheadB ⟨sm.due, sm.seq, sm.lefts⟩ ⟨h[j].due, h[j].seq, 0⟩
            · have HB2 := Lib.hid (HBE.out.keep hjl (.inl (by rw [ec.out]; exact hc)))
              rw [hc] at CO
              clear hc ec
              refine wp_region_quiet_below (by kernel_rfl) (by kernel_rfl) ?_
              repeat (first | go_big_quiet_step (with_reducible exact CO.out _ _) | quiet_step (with_reducible exact CO.out _ _))
              refine wpQuiet_nil ?_
              intro _ hw'
              obtain ⟨⟨dq, osq⟩, hw''⟩ := hw'
              subst hw''
              clear k0 k1 k2 k3 k4 k5 r0 r1 r2 CO CP
              go_wp2_with fail
              go_roundw
              case rel => exact ⟨j + 1, b, bt, by omega, by go_num, rfl, HB2, Lib.hid (Blk.kept HBX2.out (Kept.regrown W dq osq) (.inl (Nat.le_refl _))), Lib.hid (row_kept RW.out (Kept.regrown W dq osq)), Lib.hid (KW.out.trans (Kept.regrown W dq osq))⟩
              case measure => simp [intOf]; omega
            · rw [hc] at ec CO
              clear hc
              cases b with
              | false =>
                have HB2 := Lib.hid (HBE.out.put hjl ec.out (fun h => by cases h))
                refine wp_region_quiet_below (by kernel_rfl) (by kernel_rfl) ?_
                repeat (first | go_big_quiet_step (with_reducible exact CO.out _ _) | quiet_step (with_reducible exact CO.out _ _))
                refine wpQuiet_nil ?_
                intro _ hw'
                obtain ⟨⟨dq, osq⟩, hw''⟩ := hw'
                subst hw''
                have bbx := (Blk.kept HBX2.out (Kept.regrown W dq osq) (.inl (Nat.le_refl _)))
                have b0 := bbx.cell 0
                have b1 := bbx.cell 1
                have b2 := bbx.cell 2
                have f0 := bbx.frozen 0
                have f1 := bbx.frozen 1
                have f2 := bbx.frozen 2
                have xbx := (Blk.kept XB.out (Kept.regrown W dq osq) (.inl (Nat.le_refl _)))
                have x0 := xbx.cell 0
                have x1 := xbx.cell 1
                have x2 := xbx.cell 2
                have nb := Lib.hid (bbx.set3 (.int .i64 h[j].due) (.int .i64 h[j].seq) (.int .i64 0))
                have KN := Lib.hid ((KW.out.trans (Kept.regrown W dq osq)).set3 (.inl zw) (.int .i64 h[j].due) (.int .i64 h[j].seq) (.int .i64 0))
                have RN := Lib.hid (row_set3 (row_kept RW.out (Kept.regrown W dq osq)) gD.out (.int .i64 h[j].due) (.int .i64 h[j].seq) (.int .i64 0))
                clear k0 k1 k2 k3 k4 k5 r0 r1 r2 CO CP bbx xbx
                go_wp2_with fail
                clear b0 b1 b2 f0 f1 f2 x0 x1 x2
                go_roundw
                case rel => exact ⟨j + 1, true, ⟨h[j].due, h[j].seq, 0⟩, by omega, by go_num, rfl, HB2, nb, RN, KN⟩
                case measure => simp [intOf]; omega
              | true =>
                cases ha : aheadB ⟨h[j].due, h[j].seq, 0⟩ ⟨bt.due, bt.seq, bt.lefts⟩
                · have HB2 := Lib.hid (HBE.out.keep hjl (.inr ⟨rfl, ha⟩))
                  rw [ha] at CP
                  clear ha
                  refine wp_region_quiet_below (by kernel_rfl) (by kernel_rfl) ?_
                  repeat (first | go_big_quiet_step (first | with_reducible exact CO.out _ _ | with_reducible exact CP.out _ _) | quiet_step (first | with_reducible exact CO.out _ _ | with_reducible exact CP.out _ _))
                  refine wpQuiet_nil ?_
                  intro _ hw'
                  obtain ⟨⟨dq, osq⟩, hw''⟩ := hw'
                  subst hw''
                  clear k0 k1 k2 k3 k4 k5 r0 r1 r2 CO CP
                  go_wp2_with fail
                  go_roundw
                  case rel => exact ⟨j + 1, true, bt, by omega, by go_num, rfl, HB2, Lib.hid (Blk.kept HBX2.out (Kept.regrown W dq osq) (.inl (Nat.le_refl _))), Lib.hid (row_kept RW.out (Kept.regrown W dq osq)), Lib.hid (KW.out.trans (Kept.regrown W dq osq))⟩
                  case measure => simp [intOf]; omega
                · have HB2 := Lib.hid (HBE.out.put hjl ec.out (fun _ => ha))
                  rw [ha] at CP
                  clear ha
                  refine wp_region_quiet_below (by kernel_rfl) (by kernel_rfl) ?_
                  repeat (first | go_big_quiet_step (first | with_reducible exact CO.out _ _ | with_reducible exact CP.out _ _) | quiet_step (first | with_reducible exact CO.out _ _ | with_reducible exact CP.out _ _))
                  refine wpQuiet_nil ?_
                  intro _ hw'
                  obtain ⟨⟨dq, osq⟩, hw''⟩ := hw'
                  subst hw''
                  have bbx := (Blk.kept HBX2.out (Kept.regrown W dq osq) (.inl (Nat.le_refl _)))
                  have b0 := bbx.cell 0
                  have b1 := bbx.cell 1
                  have b2 := bbx.cell 2
                  have f0 := bbx.frozen 0
                  have f1 := bbx.frozen 1
                  have f2 := bbx.frozen 2
                  have xbx := (Blk.kept XB.out (Kept.regrown W dq osq) (.inl (Nat.le_refl _)))
                  have x0 := xbx.cell 0
                  have x1 := xbx.cell 1
                  have x2 := xbx.cell 2
                  have nb := Lib.hid (bbx.set3 (.int .i64 h[j].due) (.int .i64 h[j].seq) (.int .i64 0))
                  have KN := Lib.hid ((KW.out.trans (Kept.regrown W dq osq)).set3 (.inl zw) (.int .i64 h[j].due) (.int .i64 h[j].seq) (.int .i64 0))
                  have RN := Lib.hid (row_set3 (row_kept RW.out (Kept.regrown W dq osq)) gD.out (.int .i64 h[j].due) (.int .i64 h[j].seq) (.int .i64 0))
                  clear k0 k1 k2 k3 k4 k5 r0 r1 r2 CO CP bbx xbx
                  go_wp2_with fail
                  clear b0 b1 b2 f0 f1 f2 x0 x1 x2
                  go_roundw
                  case rel => exact ⟨j + 1, true, ⟨h[j].due, h[j].seq, 0⟩, by omega, by go_num, rfl, HB2, nb, RN, KN⟩
                  case measure => simp [intOf]; omega
        · have i2 : ¬ (j : Int) < (h.length : Int) := by omega
          obtain ⟨hb1, hb2⟩ := HBE.out.all (by omega) HSO.out HP.out KS.out
          have EB := Lib.hid hb2
          clear hb1 hb2 HBE
          have c0 := HBX.out.cell 0
          have c1 := HBX.out.cell 1
          have c2 := HBX.out.cell 2
          have KA := Lib.hid (HK.out.alloc (.cells #[.int .i64 bt.due, .int .i64 bt.seq, .int .i64 bt.lefts] 35))
          have RA := Lib.hid (HR.out.alloc (.cells #[.int .i64 bt.due, .int .i64 bt.seq, .int .i64 bt.lefts] 35))
          have RL := Lib.hid (OwnZ.rd (R := twR) (OwnZ.of_row (own_lit3 wr bt))).2
          have LT : Hid ((S.take k).length = k) := by show _ = _; have := KS.out; rw [List.length_take]; omega
          have RA' : Hid ((wr.alloc (.cells #[.int .i64 bt.due, .int .i64 bt.seq, .int .i64 bt.lefts] 35)).ownsRow w.heap.size 35 3 (.slice D (S.take k).length d) (S.take k).length (twR.flat (S.take k))) := by show World.ownsRow _ _ _ _ _ _ _; rw [LT.out]; exact RA.out
          have zr := HK.out.size
          have lt64 : (S.take k).length ≤ 64 := by rw [LT.out]; omega
          go_wp2_with (at_builtin; refine wpList_app (R := twR) rfl (.tmp 59) (.tmp 61) rfl HT.out w.heap.size D d (S.take k) (by rw [LT.out]; rfl) RA'.out _ (some ⟨wr.heap.size, 0, none⟩) 1 [bt] rfl RL.out (by simp only [List.length_singleton]; unfold maxLen; omega) (by simp only [List.length_singleton]; omega) (by simp; omega) ?_; intro D4 d4 w4 hown hgrow hat)
          have K4 := Lib.hid (KA.out.app hgrow (fun g hg => (own_row_lo RA.out g hg).1))
          have e4 : S.take k ++ [bt] = S.take (k + 1) := by rw [own_take_succ KS.out, EB.out]
          have e5 : (S.take (k + 1)).length = k + 1 := by have := KS.out; rw [List.length_take]; omega
          rw [e4, e5] at hown
          have O4 := Lib.hid hown
          have mk : min k S.length = k := by have := KS.out; omega
          rw [mk]
          refine ⟨⟨k + 1, D4, d4, by omega, rfl, O4, K4⟩, ?_⟩
          show h.length - (k + 1) < h.length - k
          omega
    · have i1 : ¬ (k : Int) < (h.length : Int) := by omega
      go_wp2
      go_ret
      have es : S.take k = S := List.take_of_length_le (by have := HL.out; omega)
      have ek : S.length = k := by have := HL.out; omega
      refine ⟨D, d, by rw [ek]; rfl, ?_, HK.out⟩
      have := OwnZ.of_row HR.out
      rw [es] at this
      rw [ek]
      exact this

set_option maxHeartbeats 400000 in
theorem sortedSpec_bad (h : List Tw) (A : Option Addr) (c B : Nat) (w : World) (hB : B ≤ w.heap.size) (hs : SL twR w B A c h) (ho : heapOkB h = false) :
    Calls Try.prog 39 #[.slice A h.length c] w (NewTw [] w) := by
  have H := Lib.hid hs
  have HO := Lib.hid ho
  clear hs ho
  have K0 := Lib.hid (Kept.alloc0 w (.cells #[] 35))
  have O0 := Lib.hid (own_empty3 w)
  go_enter Try.func39, Try.ntmps39
  go_wp2_with fail
  with_reducible refine (okSpec_any h _ _ B _ (by simp; omega) (H.out.kept hB K0.out (.inl (Nat.le_refl _)))).mono ?_
  rintro e w1 ⟨rfl, hk⟩
  have K1 := Lib.hid (K0.out.trans hk)
  have O1 := Lib.hid (row_kept O0.out hk)
  clear hk K0 O0
  rw [HO.out]
  go_wp2
  go_ret
  exact ⟨_, 0, rfl, OwnZ.of_row O1.out, K1.out⟩

theorem sortedSpec_any (h : List Tw) (A : Option Addr) (c B : Nat) (w : World) (hB : B ≤ w.heap.size) (hs : SL twR w B A c h) :
    Calls Try.prog 39 #[.slice A h.length c] w (NewTw (sortedL h) w) := by
  cases ho : heapOkB h
  · have e : sortedL h = [] := by simp [sortedL, ho]
    rw [e]
    exact sortedSpec_bad h A c B w hB hs ho
  · have e : sortedL h = sortT (treeOf h) := by simp [sortedL, ho]
    obtain ⟨h1, h2, h3⟩ := heapOk_iff.1 ho
    have hp := treeOf_pre h3
    have hok := treeOf_ok h3
    have hu : uniq (treeOf h) := uniq_pre (by rw [hp]; exact h2)
    rw [e]
    refine sortedSpec_ok h (sortT (treeOf h)) A c B w hB hs ho (sortT_sorts _ hok hu) ?_
    have := sortT_els (treeOf h)
    rw [els_pre, hp] at this
    exact this
end Go.Proofs.Ytggggdloppnopaa
