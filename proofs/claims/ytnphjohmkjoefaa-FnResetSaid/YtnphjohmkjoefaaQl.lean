/- The library's IndexFunc and DeleteFunc at pointers to timers, for the test 'is this one'; condition: the pointers are different, and one of them is this one. -/
import Derived.Test.YtnphjohmkjoefaaQk
import Derived.LaidEqlPtr
import Derived.Lib.SliceRun
namespace Go.Proofs.Ytnphjohmkjoefaa
open Go.RowKit Go.Sort

theorem ret_sl {A : Option Addr} {n m d : Nat} (h : n = m) : Ending.returned (.slice A n d) = .returned (.slice A m d) := by rw [h]
theorem zeroPt : ∀ w, (zeroValue 44).run Try.prog w = .ok (.pointer none) w := by
  intro w
  obtain ⟨i, h1, h2, h3, h4⟩ := info_parts Try.infoPt
  simp [zeroValue, typeInfo, h1, h2]
theorem infoTi : (Try.prog.info? 70).map (fun i => (i.zero, i.size, i.bytes)) = some (some (.agg #[.pointer none, .int .i64 0, .int .i64 0, .bool false]), 4, 32) := by kernel_rfl
theorem eqlT_same (g : Nat) (w : World) : (binOp .eql 44 (toBlk g) (toBlk g)).run Try.prog w = .ok (.bool true) w := by
  obtain ⟨i, h1, h2, h3, h4⟩ := info_parts infoTi
  exact run_eql_ptr_same w _ Try.underlying44 h1
theorem eqlT_other (g g' : Nat) (w : World) (cs cs' : Array Value) (h : Blk w g 70 cs) (h' : Blk w g' 70 cs') (hne : g ≠ g') : (binOp .eql 44 (toBlk g) (toBlk g')).run Try.prog w = .ok (.bool false) w := by
  obtain ⟨i, h1, h2, h3, h4⟩ := info_parts infoTi
  exact run_eql_ptr_other w Try.underlying44 h1 (by omega) (by intro e; injection e with e; exact hne e) h h'
/-- Every pointer is one to a timer. -/
def Tims (w : World) (ps : List Nat) : Prop := ∀ p ∈ ps, ∃ cs, Blk w p 70 cs
set_option maxHeartbeats 400000 in
theorem same1 (w : World) (x p c : Nat) (hx : ∃ cs, Blk w x 70 cs) (hp : ∃ cs, Blk w p 70 cs) (hc : w.cell? ⟨c, 0, none⟩ = some (toBlk p)) :
    Calls Try.prog 27 #[toBlk x, .pointer (some ⟨c, 0, none⟩)] w fun e w' => e = .returned (.bool (decide (x = p))) ∧ w = w' := by
  obtain ⟨cx, hx⟩ := hx
  obtain ⟨cp, hp⟩ := hp
  by_cases he : x = p
  · subst he
    have q1 := eqlT_same x w
    go_enter Try.func27, Try.ntmps27
    go_wp2_with fail
    go_ret
    exact ⟨by simp, rfl⟩
  · have q1 := eqlT_other x p w cx cp hx hp he
    have E : Hid (decide (x = p) = false) := decide_eq_false he
    clear he
    go_enter Try.func27, Try.ntmps27
    go_wp2_with fail
    go_ret
    exact ⟨ret_bool E.out.symm, rfl⟩
theorem row_at {w : World} {lo g d : Nat} {ps : List Nat} (h : w.ownsRow lo 44 ptR.k (.slice (some ⟨g, 0, none⟩) ps.length d) ps.length (ptR.flat ps)) {k : Nat} (hk : k < ps.length) : w.cell? ⟨g, k, none⟩ = some (toBlk ps[k]) := by
  have := own_at (R := ptR) h hk 0 (u := toBlk ps[k]) rfl
  simpa [ptR_k] using this
set_option maxHeartbeats 800000 in
theorem indexF_any (w : World) (lo g d k c : Nat) (ps : List Nat) (h : w.ownsRow lo 44 ptR.k (.slice (some ⟨g, 0, none⟩) ps.length d) ps.length (ptR.flat ps)) (hn : ps.length ≤ 1000) (hk : k < ps.length) (ht : Tims w ps) (hd : ps.Nodup) (hc : w.cell? ⟨c, 0, none⟩ = some (toBlk ps[k])) :
    Calls Try.prog 44 #[.slice (some ⟨g, 0, none⟩) ps.length d, .func (.func 27) #[] #[.pointer (some ⟨c, 0, none⟩)]] w fun e w' => e = .returned (.int .i64 k) ∧ w = w' := by
  have H := Lib.hid h
  have HT := Lib.hid ht
  have HC := Lib.hid hc
  clear h ht hc
  go_enter Try.func44, Try.ntmps44
  go_wp2
  go_loop [8] (fun i => ∃ j : Nat, j ≤ k ∧ i = .int .i64 j) (fun i => ps.length - (intOf i).toNat)
  case atStart => exact ⟨0, Nat.zero_le _, rfl⟩
  case round =>
    obtain ⟨j, hj, rfl⟩ := hrel
    have i1 : (j : Int) < (ps.length : Int) := by omega
    have hjl : j < ps.length := by omega
    have c1 := row_at H.out hjl
    have CS := Lib.hid (same1 w ps[j] ps[k] c (HT.out _ (List.getElem_mem hjl)) (HT.out _ (List.getElem_mem hk)) HC.out)
    by_cases he : j = k
    · have E : Hid (decide (ps[j] = ps[k]) = true) := by show _ = _; simp [he]
      have EK := Lib.hid he
      clear he
      go_wp2_with fail
      with_reducible refine CS.out.mono ?_
      rintro e w' ⟨rfl, rfl⟩
      rw [E.out]
      go_wp2_with fail
      go_ret
      exact ⟨ret_int (by rw [EK.out]), rfl⟩
    · have E : Hid (decide (ps[j] = ps[k]) = false) := decide_eq_false (fun e => (List.pairwise_iff_getElem.1 hd) j k hjl hk (by omega) e)
      go_wp2_with fail
      with_reducible refine CS.out.mono ?_
      rintro e w' ⟨rfl, rfl⟩
      rw [E.out]
      go_wp2_with fail
      go_round
      case rel => exact ⟨j + 1, by omega, by go_num⟩
      case measure => simp [intOf]; omega

/-- What the row holds when the elements behind place k have moved down, up to place j. -/
def mv (ps : List Nat) (k j : Nat) : List Nat := (ps.eraseIdx k).take (j - 1) ++ ps.drop (j - 1)
theorem mv_first {ps : List Nat} {k : Nat} : mv ps k (k + 1) = ps := by
  unfold mv
  have : (ps.eraseIdx k).take k = ps.take k := by
    rw [List.eraseIdx_eq_take_drop_succ]
    rcases Nat.le_total k ps.length with h | h
    · rw [List.take_append_of_le_length (by simp; omega), List.take_take, Nat.min_self]
    · rw [List.drop_eq_nil_of_le (by omega), List.append_nil, List.take_take, Nat.min_self]
  rw [Nat.add_sub_cancel, this, List.take_append_drop]
theorem mv_len {ps : List Nat} {k j : Nat} (hk : k < ps.length) (h1 : 1 ≤ j) (h2 : j ≤ ps.length) : (mv ps k j).length = ps.length := by
  simp [mv, List.length_eraseIdx, hk]
  omega
theorem mv_at {ps : List Nat} {k j : Nat} (hk : k < ps.length) (h1 : 1 ≤ j) (h2 : j < ps.length) : (mv ps k j)[j]? = some ps[j] := by
  unfold mv
  have hl : ((ps.eraseIdx k).take (j - 1)).length = j - 1 := by simp [List.length_eraseIdx, hk]; omega
  rw [List.getElem?_append_right (by omega), hl, List.getElem?_drop, show j - 1 + (j - (j - 1)) = j by omega, List.getElem?_eq_getElem h2]
theorem mv_succ {ps : List Nat} {k j : Nat} (hk : k < ps.length) (h1 : k + 1 ≤ j) (h2 : j < ps.length) : (mv ps k j).set (j - 1) ps[j] = mv ps k (j + 1) := by
  unfold mv
  have hl : ((ps.eraseIdx k).take (j - 1)).length = j - 1 := by simp [List.length_eraseIdx, hk]; omega
  have he : j - 1 < (ps.eraseIdx k).length := by simp [List.length_eraseIdx, hk]; omega
  have hg : (ps.eraseIdx k)[j - 1] = ps[j] := by
    rw [List.getElem_eraseIdx, dif_neg (by omega)]
    congr 1
    omega
  rw [List.set_append_right _ _ (by omega), hl, Nat.sub_self, show j + 1 - 1 = j - 1 + 1 by omega, List.take_succ_eq_append_getElem he, hg, List.append_assoc]
  congr 1
  rw [List.drop_eq_getElem_cons (show j - 1 < ps.length by omega), List.set_cons_zero, show j - 1 + 1 = j by omega]
  rfl
theorem mv_last {ps : List Nat} {k : Nat} (hk : k < ps.length) : (mv ps k ps.length).take (ps.length - 1) = ps.eraseIdx k := by
  unfold mv
  have hl : ((ps.eraseIdx k).take (ps.length - 1)).length = ps.length - 1 := by simp [List.length_eraseIdx, hk]
  rw [List.take_append_of_le_length (by omega), List.take_take, Nat.min_self, List.take_of_length_le (by simp [List.length_eraseIdx, hk])]
/-- The row of pointers to timers, and nothing else turned. -/
structure RowSt (w wr : World) (lo g d : Nat) (ps : List Nat) : Prop where
  row : wr.ownsRow lo 44 ptR.k (.slice (some ⟨g, 0, none⟩) ps.length d) ps.length (ptR.flat ps)
  kept : Kept g (g + 1) w wr
theorem row_blk1 {w : World} {lo g d : Nat} {ps : List Nat} (h : w.ownsRow lo 44 ptR.k (.slice (some ⟨g, 0, none⟩) ps.length d) ps.length (ptR.flat ps)) : ∃ cs, Blk w g 44 cs := row_blk h rfl
theorem Tims.at_ {w wr : World} {lo g d : Nat} {ps qs : List Nat} (ht : Tims w ps) (h : w.ownsRow lo 44 ptR.k (.slice (some ⟨g, 0, none⟩) qs.length d) qs.length (ptR.flat qs)) (hk : Kept g (g + 1) w wr) : Tims wr ps := fun p hp => by
  obtain ⟨cs, hb⟩ := ht p hp
  obtain ⟨cg, hg⟩ := row_blk1 h
  have := blk_ne hb hg (by decide)
  exact ⟨cs, hb.kept hk (by omega)⟩
theorem RowSt.set_ {w wr : World} {lo g d i p : Nat} {ps : List Nat} (h : RowSt w wr lo g d ps) : RowSt w (wr.setCell ⟨g, i, none⟩ (toBlk p)) lo g d (ps.set i p) := by
  refine ⟨?_, h.kept.trans ((Kept.refl g (g + 1) wr).setCell (.inr ⟨Nat.le_refl _, Nat.lt_succ_self _⟩) _)⟩
  have := (h.row.stored i (toBlk p)).1
  rw [ptR_flat] at this ⊢
  rw [List.length_set, List.map_set]
  exact this
theorem row_shorter {w : World} {lo g d : Nat} {ps : List Nat} (h : w.ownsRow lo 44 ptR.k (.slice (some ⟨g, 0, none⟩) ps.length d) ps.length (ptR.flat ps)) (m : Nat) (hm : m ≤ ps.length) : w.ownsRow lo 44 ptR.k (.slice (some ⟨g, 0, none⟩) m d) m (ptR.flat (ps.take m)) := by
  refine ⟨by rw [ptR.flat_len]; simp [hm], ?_⟩
  rcases h.2 with ⟨hv, _⟩ | ⟨g', cap, cur, hv, hb, hg, h1, h2, h3, h4⟩
  · injection hv with h1; cases h1
  · injection hv with e1 e2 e3
    subst e3
    refine .inr ⟨g', d, cur, by rw [e1], hb, hg, by omega, h2, h3, ?_⟩
    rw [ptR.flat_take, ← h4, List.take_take, Nat.min_eq_left (Nat.mul_le_mul_right _ hm)]

set_option maxHeartbeats 1600000 in
set_option maxRecDepth 100000 in
theorem deleteF_any (w : World) (lo g d k c : Nat) (ps : List Nat) (h : w.ownsRow lo 44 ptR.k (.slice (some ⟨g, 0, none⟩) ps.length d) ps.length (ptR.flat ps)) (hn : ps.length ≤ 1000) (hk : k < ps.length) (ht : Tims w ps) (hd : ps.Nodup) (hb : Blk w c 44 #[toBlk ps[k]]) (hcg : c ≠ g) :
    Calls Try.prog 26 #[.slice (some ⟨g, 0, none⟩) ps.length d, .func (.func 27) #[] #[.pointer (some ⟨c, 0, none⟩)]] w fun e w' => e = .returned (.slice (some ⟨g, 0, none⟩) (ps.length - 1) d) ∧ w'.ownsRow lo 44 ptR.k (.slice (some ⟨g, 0, none⟩) (ps.length - 1) d) (ps.length - 1) (ptR.flat (ps.eraseIdx k)) ∧ Kept g (g + 1) w w' := by
  have H := Lib.hid h
  have HT := Lib.hid ht
  have HB := Lib.hid hb
  have CI := Lib.hid (indexF_any w lo g d k c ps h hn hk ht hd (hb.cell 0))
  have hcap := (OwnZ.of_row h).cap
  have hdl : ps.length ≤ d := hcap.1
  have hdm : d ≤ 9223372036854775807 := by have := hcap.2; unfold maxLen at this; omega
  clear h ht hb hcap
  go_enter Try.func26, Try.ntmps26
  go_wp2_with fail
  with_reducible refine CI.out.mono ?_
  rintro e w' ⟨rfl, rfl⟩
  have g1 : ((k : Int) == -1) = false := by simp
  go_wp2_with fail
  have S0 : Hid (RowSt w w lo g d (mv ps k (k + 1))) := by show RowSt _ _ _ _ _ _; rw [mv_first]; exact ⟨H.out, Kept.refl _ _ _⟩
  go_loopw [5, 6] (fun i j wr => ∃ m : Nat, k ≤ m ∧ m + 1 ≤ ps.length ∧ i = .int .i64 m ∧ j = .int .i64 (m + 1 : Nat) ∧ Hid (RowSt w wr lo g d (mv ps k (m + 1)))) (fun _ j _ => ps.length - (intOf j).toNat)
  case atStart => exact ⟨k, Nat.le_refl _, hk, rfl, by go_num, S0⟩
  case round =>
    clear S0
    obtain ⟨m, hkm, hml, rfl, rfl, St⟩ := hrel
    have ML : Hid ((mv ps k (m + 1)).length = ps.length) := mv_len hk (by omega) hml
    have ROW : Hid (wr.ownsRow lo 44 ptR.k (.slice (some ⟨g, 0, none⟩) (mv ps k (m + 1)).length d) (mv ps k (m + 1)).length (ptR.flat (mv ps k (m + 1)))) := St.out.row
    obtain ⟨cg, hg⟩ := row_blk1 St.out.row
    by_cases hlt : m + 1 < ps.length
    · have i1 : ((m + 1 : Nat) : Int) < (ps.length : Int) := by omega
      have i2 : (m : Int) < (ps.length : Int) := by omega
      have hj : m + 1 < (mv ps k (m + 1)).length := by have := ML.out; omega
      have cj : wr.cell? ⟨g, m + 1, none⟩ = some (toBlk ps[m + 1]) := by
        have h1 := row_at St.out.row hj
        have h2 := mv_at hk (by omega : 1 ≤ m + 1) hlt
        rw [List.getElem?_eq_getElem hj] at h2
        injection h2 with h2
        rw [h2] at h1
        exact h1
      have hm' : m < (mv ps k (m + 1)).length := by have := ML.out; omega
      have cm := row_at St.out.row hm'
      have fm := hg.frozen m
      have TW := Lib.hid (HT.out.at_ H.out St.out.kept)
      have BC := Lib.hid (HB.out.kept St.out.kept (by omega))
      have CS := Lib.hid (same1 wr ps[m + 1] ps[k] c (TW.out _ (List.getElem_mem hlt)) (TW.out _ (List.getElem_mem hk)) (BC.out.cell 0))
      have E : Hid (decide (ps[m + 1] = ps[k]) = false) := decide_eq_false (fun e => (List.pairwise_iff_getElem.1 hd) k (m + 1) hk hlt (by omega) e.symm)
      have S2 : Hid (RowSt w (wr.setCell ⟨g, m, none⟩ (toBlk ps[m + 1])) lo g d (mv ps k (m + 1 + 1))) := by
        have h0 := St.out.set_ (i := m) (p := ps[m + 1])
        have h1 := mv_succ hk (by omega : k + 1 ≤ m + 1) hlt
        rw [Nat.add_sub_cancel] at h1
        rw [h1] at h0
        exact h0
      clear hg
      go_wp2_with fail
      with_reducible refine CS.out.mono ?_
      rintro e w' ⟨rfl, rfl⟩
      rw [E.out]
      go_wp2_with fail
      go_roundw
      case rel => exact ⟨m + 1, by omega, by omega, by go_num, by go_num, S2⟩
      case measure => simp [intOf]; omega
    · have hme : ps.length = m + 1 := by omega
      have ME := Lib.hid hme
      have i1 : ¬ ((m + 1 : Nat) : Int) < (ps.length : Int) := by omega
      have p1 : (m : Int) ≤ (ps.length : Int) := by omega
      have p2 : (ps.length : Int) ≤ (d : Int) := by omega
      have p3 : ¬ (d : Int) = (m : Int) := by omega
      have p4 : ¬ d = m := by omega
      have hm' : m < (mv ps k (m + 1)).length := by have := ML.out; omega
      have cm := row_at St.out.row hm'
      have hcl : ∀ ty, (Builtin.clear_ #[53] ty #[.slice (some ⟨g, m, none⟩) (ps.length - m) (d - m)]).run Try.prog wr = .ok (.tuple #[]) (wr.setCell ⟨g, m, none⟩ (.pointer none)) := by
        intro ty
        have e1 : ps.length - m = 1 := by omega
        rw [e1]
        exact Lib.run_clear_slice wr 53 44 ty (.pointer none) Try.underlying53 zeroPt rfl rfl g m 1 (d - m) (by omega) (fun j hj => by rw [show j = 0 from (by omega), Nat.add_zero, cm]; rfl) (fun j hj => hg.frozen _)
      have RF : Hid ((wr.setCell ⟨g, m, none⟩ (.pointer none)).ownsRow lo 44 ptR.k (.slice (some ⟨g, 0, none⟩) m d) m (ptR.flat (ps.eraseIdx k))) := by
        have h0 := row_shorter St.out.row m (by omega)
        have h1 := (h0.stored m (.pointer none)).1
        have e2 : (mv ps k (m + 1)).take m = ps.eraseIdx k := by have := mv_last hk; rwa [hme, Nat.add_sub_cancel] at this
        rw [e2] at h1
        rw [List.set_eq_of_length_le (by rw [ptR.flat_len, List.length_eraseIdx, if_pos hk, hme]; simp [ptR_k])] at h1
        exact h1
      have KF : Hid (Kept g (g + 1) w (wr.setCell ⟨g, m, none⟩ (.pointer none))) := St.out.kept.trans ((Kept.refl g (g + 1) wr).setCell (.inr ⟨Nat.le_refl _, Nat.lt_succ_self _⟩) _)
      have EM : Hid (ps.length - 1 = m) := by show _ = _; omega
      have p5 : (m : Int) ≤ (d : Int) := by omega
      clear hme hg cm
      go_wp2_with fail
      go_ret
      exact ⟨ret_sl EM.out.symm, by rw [EM.out]; exact RF.out, KF.out⟩
end Go.Proofs.Ytnphjohmkjoefaa
