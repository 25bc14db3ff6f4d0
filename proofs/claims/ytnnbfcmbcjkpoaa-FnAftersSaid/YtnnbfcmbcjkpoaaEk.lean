/- The law FnAfters returns true for every code of at most 4096 bytes; no further condition. -/
import Derived.Test.YtnnbfcmbcjkpoaaEj
import Derived.Test.YtnnbfcmbcjkpoaaEc
import Derived.Deep.CutBlock
namespace Go.Proofs.Ytnnbfcmbcjkpoaa
open Go.RowKit Go.Sort

theorem big_any (A : Option Addr) (n c : Nat) (w : World) (hn : n ≤ maxLen) :
    Calls Try.prog 10 #[.slice A n c] w fun e w' => e = .returned (.bool (decide (4096 < n))) ∧ w = w' := by
  unfold maxLen at hn
  go_enter Try.func10, Try.ntmps10
  go_wp2
  go_ret
  exact ⟨ret_bool (by simp; omega), rfl⟩
/-- A literal of one number. -/
theorem own_litE (w : World) (x : Int) : (w.alloc (.cells #[.int .i64 x] 2)).ownsRow w.heap.size 2 1 (.slice (some ⟨w.heap.size, 0, none⟩) 1 1) 1 (iR.flat [x]) :=
  World.ownsRow_lit w #[.int .i64 x] 1 (Nat.le_refl _) (by unfold maxLen; omega) rfl
theorem rd_litE (w : World) (x : Int) : RdR iR (w.alloc (.cells #[.int .i64 x] 2)) (w.heap.size + 1) (some ⟨w.heap.size, 0, none⟩) [x] := by
  have := (OwnZ.rd (R := iR) (OwnZ.of_row (own_litE w x))).2
  simpa using this

/-- The records with the first k queued where they are of the node m. -/
def qE (m : Int) (E : List Ent) (k : Nat) : List Ent := (E.take k).map (queueE m) ++ E.drop k
theorem qE_zero (m : Int) (E : List Ent) : qE m E 0 = E := by simp [qE]
theorem qE_all (m : Int) (E : List Ent) {k : Nat} (h : E.length ≤ k) : qE m E k = E.map (queueE m) := by simp [qE, List.take_of_length_le h, List.drop_eq_nil_of_le h]
theorem qE_len (m : Int) (E : List Ent) (k : Nat) : (qE m E k).length = E.length := by simp [qE]; omega
theorem qE_at (m : Int) (E : List Ent) {k : Nat} (h : k < E.length) : (qE m E k)[k]'(by rw [qE_len]; exact h) = E[k] := by
  unfold qE
  rw [List.getElem_append_right (by simp; omega)]
  simp [Nat.min_eq_left (Nat.le_of_lt h)]
theorem qE_succ (m : Int) (E : List Ent) {k : Nat} (h : k < E.length) : qE m E (k + 1) = (qE m E k).set k (queueE m E[k]) := by
  unfold qE
  have hl : ((E.take k).map (queueE m)).length = k := by simp; omega
  rw [List.set_append_right _ _ (by rw [hl]; exact Nat.le_refl _), hl, Nat.sub_self, List.drop_eq_getElem_cons h, List.set_cons_zero, List.take_add_one, List.getElem?_eq_getElem h, List.map_append, List.append_assoc]
  rfl
theorem qE_st (m : Int) (E : List Ent) {k : Nat} (h : k < E.length) : (qE m E (k + 1)).map Ent.st = if E[k].node = m ∧ E[k].st = 0 then ((qE m E k).map Ent.st).set k 1 else (qE m E k).map Ent.st := by
  rw [qE_succ m E h, List.map_set]
  unfold queueE
  split
  · rfl
  · have hk : k < ((qE m E k).map Ent.st).length := by simp [qE_len]; exact h
    have e : E[k].st = ((qE m E k).map Ent.st)[k] := by simp [qE_at m E h]
    rw [e, List.set_getElem_self]
theorem queueE_same (m : Int) (E : List Ent) : (E.map (queueE m)).map Ent.node = E.map Ent.node ∧ (E.map (queueE m)).map Ent.hd = E.map Ent.hd := by
  constructor
  · rw [List.map_map]; congr 1; funext e; unfold queueE; simp only [Function.comp]; split <;> rfl
  · rw [List.map_map]; congr 1; funext e; unfold queueE; simp only [Function.comp]; split <;> rfl
theorem setSt_maps (E : List Ent) (j : Nat) (s : Int) : (setSt E j s).map Ent.node = E.map Ent.node ∧ (setSt E j s).map Ent.hd = E.map Ent.hd ∧ (setSt E j s).map Ent.st = (E.map Ent.st).set j s := by
  refine ⟨?_, ?_, ?_⟩
  · apply List.ext_getElem (by simp [setSt_len])
    intro i h1 h2
    simp only [List.getElem_map]
    rw [setSt_at E j s (by simpa using h2)]
    split <;> rfl
  · apply List.ext_getElem (by simp [setSt_len])
    intro i h1 h2
    simp only [List.getElem_map]
    rw [setSt_at E j s (by simpa using h2)]
    split <;> rfl
  · apply List.ext_getElem (by simp [setSt_len])
    intro i h1 h2
    simp only [List.getElem_map, List.getElem_set]
    rw [setSt_at E j s (by simpa [setSt_len] using h1)]
    split <;> rfl
/-- What the search from the end has found behind record j: the first queued one from j on, or none. -/
def FoundE (E : List Ent) (j : Nat) (k : Int) : Prop := (k = -1 ∧ ∀ q (h : q < E.length), j ≤ q → E[q].st ≠ 1) ∨ ∃ p, ∃ h : p < E.length, k = (p : Int) ∧ j ≤ p ∧ E[p].st = 1 ∧ ∀ q (hq : q < p), j ≤ q → (E[q]'(by omega)).st ≠ 1
theorem FoundE.start (E : List Ent) : FoundE E E.length (-1) := .inl ⟨rfl, fun q h hq => by omega⟩
theorem FoundE.yes {E : List Ent} {j : Nat} (hj : j < E.length) (h : E[j].st = 1) : FoundE E j (j : Int) := .inr ⟨j, hj, rfl, Nat.le_refl _, h, fun q hq hjq => by omega⟩
theorem FoundE.no {E : List Ent} {j : Nat} {k : Int} (hj : j < E.length) (h : E[j].st ≠ 1) (hf : FoundE E (j + 1) k) : FoundE E j k := by
  rcases hf with ⟨rfl, h0⟩ | ⟨p, hp, rfl, hjp, h1, h0⟩
  · refine .inl ⟨rfl, fun q hq hjq => ?_⟩
    rcases Nat.eq_or_lt_of_le hjq with rfl | h'
    · exact h
    · exact h0 q hq h'
  · refine .inr ⟨p, hp, rfl, by omega, h1, fun q hq hjq => ?_⟩
    rcases Nat.eq_or_lt_of_le hjq with rfl | h'
    · exact h
    · exact h0 q hq h'
/-- How many of the first k are still registered. -/
def cntE (E : List Ent) (k : Nat) : Nat := liveN (E.take k)
theorem cntE_succ (E : List Ent) {k : Nat} (h : k < E.length) : cntE E (k + 1) = cntE E k + if E[k].st < 2 then 1 else 0 := by
  unfold cntE liveN
  rw [List.take_succ_eq_append_getElem h, List.filter_append, List.length_append]
  congr 1
  simp only [List.filter_cons, List.filter_nil, liveE]
  by_cases h2 : E[k].st < 2 <;> simp [h2]
theorem cntE_all (E : List Ent) {k : Nat} (h : E.length ≤ k) : cntE E k = liveN E := by unfold cntE; rw [List.take_of_length_le h]
theorem liveN_le (E : List Ent) : liveN E ≤ E.length := List.length_filter_le _ _
/-- The law's state goes on with the records. -/
def LawSt (w wx : World) (A : Option Addr) (c : Nat) (xs : List Int) (ba n t : Nat) (v1 v2 v3 : Value) : Prop := ∃ (E : List Ent) (a : Afs) (b1 d1 b2 d2 b3 d3 : Nat), v1 = .slice (some ⟨b1, 0, none⟩) E.length d1 ∧ v2 = .slice (some ⟨b2, 0, none⟩) E.length d2 ∧ v3 = .slice (some ⟨b3, 0, none⟩) E.length d3 ∧
  LM w wx A c xs w.heap.size ba a (E.map Ent.node) (E.map Ent.st) (E.map Ent.hd) b1 d1 b2 d2 b3 d3 ∧ InvA n t a E

set_option maxRecDepth 100000 in
set_option maxHeartbeats 12800000 in
theorem lawAfters_small (xs : List Int) (A : Option Addr) (c : Nat) (w : World) (h : Rd (Value.int .u8) w w.heap.size A xs) (hx : ∀ x ∈ xs, 0 ≤ x ∧ x ≤ 255) (hl : xs.length ≤ 4096) :
    Calls Try.prog 3 #[.slice A xs.length c] w fun e w' => e = .returned (.bool true) ∧ Kept 0 0 w w' := by
  have H := Lib.hid h
  have hbig : decide (4096 < xs.length) = false := by simp; omega
  have HX := Lib.hid hx
  clear h hx
  go_enter Try.func3, Try.ntmps3
  go_wp2_with fail
  with_reducible refine (big_any _ _ _ _ (by unfold maxLen; omega)).mono ?_
  rintro e w' ⟨rfl, rfl⟩
  rw [hbig]
  clear hbig
  go_wp2_with fail
  with_reducible refine (rollD xs _ A c _ H.out HX.out hl).mono ?_
  rintro e w1 ⟨rfl, hb, hk⟩
  have B1 := Lib.hid hb
  have K1 := Lib.hid hk
  clear hb hk
  go_wp2_with fail
  with_reducible refine (belowD xs A c w.heap.size 5 _ B1.out (by omega) (by omega)).mono ?_
  rintro e w2 ⟨r, rfl, hr, hb, hk⟩
  obtain ⟨n, hn⟩ : ∃ n : Nat, n = r + 1 := ⟨_, rfl⟩
  have hnz : (1 : Int) + (r : Int) = (n : Int) := by omega
  have hn1 : 1 ≤ n := by omega
  have hn2 : n ≤ 5 := by omega
  have B2 := Lib.hid hb
  have K2 := Lib.hid (K1.out.trans2 hk (.inr (Nat.le_refl _)))
  have z2 := hb.lt
  have sb : newSB n = true := by simp [newSB]; omega
  have CN := Lib.hid (implNewAs n w2)
  rw [sb] at CN
  clear hb hk B1 K1 hn hr sb
  go_wp2_with fail
  clear hnz
  with_reducible refine CN.out.mono ?_
  rintro e w3 ⟨_, rfl, ⟨_, _, _, rfl, ⟨F1, f1, rfl, o1⟩, ⟨F2, f2, rfl, o2⟩, ⟨F3, f3, rfl, o3⟩⟩, hk⟩
  have hk3 := hk
  obtain ⟨V, hV⟩ : ∃ V, V = (((w3.alloc (.cells #[.slice F1 (newST n).ages.length f1, .slice F2 (newST n).used.length f2, .slice F3 0 f3] 34)).alloc (.cells #[] 2)).alloc (.cells #[] 2)).alloc (.cells #[] 40) := ⟨_, rfl⟩
  have kV : Kept 0 0 w3 V := by rw [hV]; exact (((Kept.alloc0 _ _).alloc _).alloc _).alloc _
  have zV : w3.heap.size + 4 = V.heap.size := by rw [hV]; simp
  have z3 := hk.size
  have M0 : Hid (LawSt w V A c xs w3.heap.size n 0 (.slice (some ⟨w3.heap.size + 1, 0, none⟩) 0 0) (.slice (some ⟨w3.heap.size + 1 + 1, 0, none⟩) 0 0) (.slice (some ⟨w3.heap.size + 1 + 1 + 1, 0, none⟩) 0 0)) := by
    refine ⟨[], ⟨newST n, []⟩, w3.heap.size + 1, 0, w3.heap.size + 1 + 1, 0, w3.heap.size + 1 + 1 + 1, 0, rfl, rfl, rfl, ⟨(K2.out.trans hk).trans kV, B2.out.kept (hk.trans kV) (.inl (Nat.le_refl _)), ⟨w2.heap.size, w3.heap.size, F1, f1, F2, f2, F3, f3, ?_, ?_, by omega, by omega, by omega, by omega⟩, ?_, ?_, ?_, by omega, Nat.le_refl _, by omega⟩, InvA.start n hn1 (by omega)⟩
    · rw [hV]; exact (((Blk.new _ _ _).alloc _).alloc _).alloc _
    · exact OwnAs.kept (⟨_, _, _, rfl, ⟨F1, f1, rfl, o1⟩, ⟨F2, f2, rfl, o2⟩, ⟨F3, f3, rfl, o3⟩⟩ : OwnAs w3 w2.heap.size w3.heap.size _ _) kV (.inl (Nat.le_refl _))
    · rw [hV]
      have := ((Blk.new (w3.alloc (.cells #[.slice F1 (newST n).ages.length f1, .slice F2 (newST n).used.length f2, .slice F3 0 f3] 34)) 2 #[]).alloc (.cells #[] 2)).alloc (.cells #[] 40)
      exact own_emptyZ (by simpa using this) (by omega)
    · rw [hV]
      have := (Blk.new ((w3.alloc (.cells #[.slice F1 (newST n).ages.length f1, .slice F2 (newST n).used.length f2, .slice F3 0 f3] 34)).alloc (.cells #[] 2)) 2 #[]).alloc (.cells #[] 40)
      exact own_emptyZ (by simpa using this) (by omega)
    · rw [hV]
      have := Blk.new (((w3.alloc (.cells #[.slice F1 (newST n).ages.length f1, .slice F2 (newST n).used.length f2, .slice F3 0 f3] 34)).alloc (.cells #[] 2)).alloc (.cells #[] 2)) 40 #[]
      exact own_emptyZ (by simpa using this) (by omega)
  have HV := Lib.hid hV
  clear hV kV o1 o2 o3 hk hk3 CN B2 K2
  go_upto_region 11 with fail
  rw [← HV.out]
  obtain ⟨ba, hba⟩ : ∃ ba, ba = w3.heap.size := ⟨_, rfl⟩
  have m0 := M0.out
  rw [← hba] at m0 ⊢
  have M1 := Lib.hid m0
  clear HV m0 M0 zV z3 z2 hba
  go_wp2_with fail
  go_loopw [7, 8, 9, 10] (fun v1 v2 v3 i wr => ∃ t : Nat, t ≤ 24 ∧ i = .int .i64 t ∧ Hid (LawSt w wr A c xs ba n t v1 v2 v3)) (fun _ _ _ i _ => 24 - (intOf i).toNat)
  case atStart => exact ⟨0, by omega, by rfl, M1⟩
  case round =>
    clear M1
    obtain ⟨t, ht, rfl, HR⟩ := hrel
    obtain ⟨E, a, b1, d1, b2, d2, b3, d3, rfl, rfl, rfl, hm, hinv⟩ := HR.out
    have M := Lib.hid hm
    have I := Lib.hid hinv
    have hEl : E.length ≤ 24 := by have := hinv.count; omega
    clear hm hinv HR
    by_cases hlt : t < 24
    · have i1 : (t : Int) < 24 := by omega
      go_wp2_with fail
      with_reducible refine (belowD xs A c w.heap.size 5 _ M.out.dice (by omega) (by omega)).mono ?_
      rintro e w5 ⟨r, rfl, hr, hb, hk⟩
      have M5 := Lib.hid (M.out.draw hk hb)
      clear hb hk M
      go_upto_block 2 with fail
      go_cut [7, 8, 9] (fun v1 v2 v3 wx => Hid (LawSt w wx A c xs ba n (t + 1) v1 v2 v3))
      case first =>
        by_cases r0 : r = 0
        · as_aux_lemma =>
            have g0 : ((r : Int) == 0) = true := by simp [r0]
            clear r0
            go_wp2_with fail
            with_reducible refine (belowD xs A c w.heap.size 3 _ M5.out.dice (by omega) (by omega)).mono ?_
            rintro e w6 ⟨m, rfl, hm, hb, hk⟩
            have M6 := Lib.hid (M5.out.draw hk hb)
            obtain ⟨F1, f1, F2, f2, F3, f3, hbx, hra⟩ := M6.out.rdA
            have BX := Lib.hid hbx
            have CQ := Lib.hid (implQueue a m _ w6 hra)
            have ea : queueA a m = ⟨a.slots, a.list.map (queue1 m)⟩ := by unfold queueA; rw [if_pos (aftersB_true.2 I.out.ok)]
            rw [ea] at CQ
            obtain ⟨a', ha'⟩ : ∃ a' : Afs, a' = ⟨a.slots, a.list.map (queue1 m)⟩ := ⟨_, rfl⟩
            rw [← ha'] at CQ
            have I2 : Hid (InvA n (t + 1) a' (E.map (queueE m))) := by show InvA _ _ _ _; rw [ha']; exact I.out.queue m
            have c0 := ax0 BX.out
            have c1 := ax1 BX.out
            have c2 := ax2 BX.out
            have lt6 := M6.out.lt1
            clear hb hk M5 hbx hra ea ha'
            go_wp2_with fail
            with_reducible refine CQ.out.mono ?_
            rintro e w7 ⟨_, rfl, ⟨_, _, _, rfl, ⟨E1, k1, rfl, o1⟩, ⟨E2, k2, rfl, o2⟩, ⟨E3, k3, rfl, o3⟩⟩, hk⟩
            have M7 := Lib.hid (M6.out.step hk)
            have B7 := Lib.hid (BX.out.kept hk (.inl (Nat.le_refl _)))
            have g1d : w.heap.size + 1 ≤ w6.heap.size := by omega
            have MF := Lib.hid (M7.out.put (a' := a') ⟨_, _, _, rfl, ⟨E1, k1, rfl, o1⟩, ⟨E2, k2, rfl, o2⟩, ⟨E3, k3, rfl, o3⟩⟩ (Nat.le_refl _) g1d (.inl lt6.1) (.inl lt6.2.1))
            obtain ⟨V, hV⟩ : ∃ V, V = ((w7.setCell ⟨ba, 0, none⟩ (.slice E1 a'.slots.ages.length k1)).setCell ⟨ba, 1, none⟩ (.slice E2 a'.slots.used.length k2)).setCell ⟨ba, 2, none⟩ (.slice E3 a'.list.length k3) := ⟨_, rfl⟩
            rw [← hV] at MF
            have HV := Lib.hid hV
            have c0 := ax0 B7.out
            have c1 := ax1 B7.out
            have c2 := ax2 B7.out
            have f0 := B7.out.frozen 0
            have f1' := B7.out.frozen 1
            have f2' := B7.out.frozen 2
            clear hV o1 o2 o3 hk CQ M6 M7 BX lt6
            go_upto_region 27 with fail
            rw [← HV.out]
            clear c0 c1 c2 f0 f1' f2' B7 HV
            go_wp2_with fail
            go_loopw [12] (fun i wr => ∃ k : Nat, k ≤ E.length ∧ i = .int .i64 k ∧ Hid (LM w wr A c xs w.heap.size ba a' (E.map Ent.node) ((qE m E k).map Ent.st) (E.map Ent.hd) b1 d1 b2 d2 b3 d3)) (fun i _ => E.length - (intOf i).toNat)
            case atStart => exact ⟨0, Nat.zero_le _, by rfl, by show LM _ _ _ _ _ _ _ _ _ _ _ _ _ _ _ _ _; rw [qE_zero]; exact MF.out⟩
            case round =>
              clear MF
              obtain ⟨k, hk, rfl, HM⟩ := hrel
              by_cases hk2 : k < E.length
              · have i2 : (k : Int) < (E.length : Int) := by omega
                have n1 := HM.out.node_at (k := k) (by simpa using hk2)
                have s1 := HM.out.st_at (k := k) (by simp [qE_len]; exact hk2)
                rw [show (E.map Ent.node)[k]'(by simpa using hk2) = E[k].node from by simp] at n1
                rw [show ((qE m E k).map Ent.st)[k]'(by simp [qE_len]; exact hk2) = E[k].st from by simp [qE_at m E hk2]] at s1
                have fz := HM.out.r2.frozenAt k
                have ES := Lib.hid (qE_st m E hk2)
                obtain ⟨x, hx⟩ : ∃ x, x = E[k] := ⟨_, rfl⟩
                rw [← hx] at n1 s1 ES
                clear hx
                by_cases q1 : x.node = m
                · by_cases q2 : x.st = 0
                  · have L2 : Hid (LM w (wr.setCell ⟨b2, k, none⟩ (.int .i64 1)) A c xs w.heap.size ba a' (E.map Ent.node) ((qE m E (k + 1)).map Ent.st) (E.map Ent.hd) b1 d1 b2 d2 b3 d3) := by
                      show LM _ _ _ _ _ _ _ _ _ _ _ _ _ _ _ _ _
                      rw [ES.out, if_pos ⟨q1, q2⟩]
                      exact HM.out.state k 1
                    have p1 : (x.node == (m : Int)) = true := by simpa using q1
                    have p2 : (x.st == 0) = true := by simpa using q2
                    clear q1 q2
                    go_wp2_with fail
                    go_roundw
                    case rel => exact ⟨k + 1, by omega, by go_num, L2⟩
                    case measure => simp [intOf]; omega
                  · have L2 : Hid (LM w wr A c xs w.heap.size ba a' (E.map Ent.node) ((qE m E (k + 1)).map Ent.st) (E.map Ent.hd) b1 d1 b2 d2 b3 d3) := by
                      show LM _ _ _ _ _ _ _ _ _ _ _ _ _ _ _ _ _
                      rw [ES.out, if_neg (fun h => q2 h.2)]
                      exact HM.out
                    have p1 : (x.node == (m : Int)) = true := by simpa using q1
                    have p2 : (x.st == 0) = false := by simpa using q2
                    clear q1 q2
                    go_wp2_with fail
                    go_roundw
                    case rel => exact ⟨k + 1, by omega, by go_num, L2⟩
                    case measure => simp [intOf]; omega
                · have L2 : Hid (LM w wr A c xs w.heap.size ba a' (E.map Ent.node) ((qE m E (k + 1)).map Ent.st) (E.map Ent.hd) b1 d1 b2 d2 b3 d3) := by
                    show LM _ _ _ _ _ _ _ _ _ _ _ _ _ _ _ _ _
                    rw [ES.out, if_neg (fun h => q1 h.1)]
                    exact HM.out
                  have p1 : (x.node == (m : Int)) = false := by simpa using q1
                  clear q1
                  go_wp2_with fail
                  go_roundw
                  case rel => exact ⟨k + 1, by omega, by go_num, L2⟩
                  case measure => simp [intOf]; omega
              · have i2 : ¬ (k : Int) < (E.length : Int) := by omega
                have hkl : E.length ≤ k := by omega
                have L2 : Hid (LM w wr A c xs w.heap.size ba a' ((E.map (queueE m)).map Ent.node) ((E.map (queueE m)).map Ent.st) ((E.map (queueE m)).map Ent.hd) b1 d1 b2 d2 b3 d3) := by
                  show LM _ _ _ _ _ _ _ _ _ _ _ _ _ _ _ _ _
                  rw [(queueE_same m E).1, (queueE_same m E).2, ← qE_all m E hkl]
                  exact HM.out
                go_wp2_with fail
                go_meet
                exact ⟨_, a', b1, d1, b2, d2, b3, d3, by simp, by simp, by simp, L2.out, I2.out⟩
        by_cases r1 : r = 1
        · as_aux_lemma =>
            have g0 : ((r : Int) == 0) = false := by simpa using r0
            have g1 : ((r : Int) == 1) = true := by simp [r1]
            clear r0 r1
            obtain ⟨F1, f1, F2, f2, F3, f3, hbx, hra⟩ := M5.out.rdA
            have BX := Lib.hid hbx
            have CS := Lib.hid (implStart a _ w5 hra)
            obtain ⟨N, hN⟩ : ∃ N, N = pickA goB a := ⟨_, rfl⟩
            obtain ⟨y, hy⟩ : ∃ y, y = pickX goB a := ⟨_, rfl⟩
            obtain ⟨bb, hbb⟩ : ∃ bb, bb = pickB goB a := ⟨_, rfl⟩
            rw [← hN, ← hy, ← hbb] at CS
            have HN := Lib.hid hN
            have HY := Lib.hid hy
            have HBB := Lib.hid hbb
            have c0 := ax0 BX.out
            have c1 := ax1 BX.out
            have c2 := ax2 BX.out
            have lt5 := M5.out.lt1
            clear hbx hra hN hy hbb
            go_wp2_with fail
            with_reducible refine CS.out.mono ?_
            rintro e w6 ⟨_, rfl, ⟨_, _, _, rfl, ⟨E1, k1, rfl, o1⟩, ⟨E2, k2, rfl, o2⟩, ⟨E3, k3, rfl, o3⟩⟩, hk⟩
            obtain ⟨V, hV⟩ : ∃ V, V = (w6.alloc (.cells #[.slice E1 N.slots.ages.length k1, .slice E2 N.slots.used.length k2, .slice E3 N.list.length k3] 34)).alloc (.cells #[.int .i64 y.slot, .int .i64 y.age, .int .i64 y.node, .int .i64 y.func, .bool y.queued] 42) := ⟨_, rfl⟩
            have kV : Kept 0 0 w6 V := by rw [hV]; exact (Kept.alloc0 _ _).alloc _
            have zV : w6.heap.size + 2 = V.heap.size := by rw [hV]; simp
            have z6 := hk.size
            have BN : Hid (Blk V w6.heap.size 34 #[.slice E1 N.slots.ages.length k1, .slice E2 N.slots.used.length k2, .slice E3 N.list.length k3]) := by show Blk _ _ _ _; rw [hV]; exact (Blk.new _ _ _).alloc _
            have BY : Hid (Blk V (w6.heap.size + 1) 42 #[.int .i64 y.slot, .int .i64 y.age, .int .i64 y.node, .int .i64 y.func, .bool y.queued]) := by
              show Blk _ _ _ _
              rw [hV]
              have := Blk.new (w6.alloc (.cells #[.slice E1 N.slots.ages.length k1, .slice E2 N.slots.used.length k2, .slice E3 N.list.length k3] 34)) 42 #[.int .i64 y.slot, .int .i64 y.age, .int .i64 y.node, .int .i64 y.func, .bool y.queued]
              simpa using this
            have MV := Lib.hid (M5.out.step (hk.trans kV))
            have OV : Hid (OwnAs V w5.heap.size w6.heap.size (.agg #[.slice E1 N.slots.ages.length k1, .slice E2 N.slots.used.length k2, .slice E3 N.list.length k3]) N) := OwnAs.kept (⟨_, _, _, rfl, ⟨E1, k1, rfl, o1⟩, ⟨E2, k2, rfl, o2⟩, ⟨E3, k3, rfl, o3⟩⟩ : OwnAs w6 w5.heap.size w6.heap.size _ _) kV (.inl (Nat.le_refl _))
            have HV := Lib.hid hV
            clear hV kV o1 o2 o3 hk CS BX c0 c1 c2 M5
            go_upto_region 34 with fail
            rw [← HV.out]
            clear HV
            go_wp2_with fail
            go_loop [16, 17] (fun k j => ∃ (q : Nat) (kk : Int), q ≤ E.length ∧ j = .int .i64 ((q : Int) - 1) ∧ k = .int .i64 kk ∧ Hid (FoundE E q kk)) (fun _ j => (intOf j + 1).toNat)
            case atStart => exact ⟨E.length, -1, Nat.le_refl _, by rfl, by rfl, FoundE.start E⟩
            case round =>
              obtain ⟨q, kk, hq, rfl, rfl, HF⟩ := hrel
              cases q with
              | succ p =>
                have hp : p < E.length := by omega
                rw [show ((p + 1 : Nat) : Int) - 1 = (p : Int) from by omega]
                have i2 : (p : Int) < (E.length : Int) := by omega
                have i3 : (0 : Int) ≤ (p : Int) := by omega
                have s1 := MV.out.st_at (k := p) (by simpa using hp)
                rw [show (E.map Ent.st)[p]'(by simpa using hp) = E[p].st from by simp] at s1
                by_cases h1 : E[p].st = 1
                · have HF2 : Hid (FoundE E p (p : Int)) := FoundE.yes hp h1
                  rw [h1] at s1
                  clear h1
                  go_wp2_with fail
                  go_round
                  case rel => exact ⟨p, (p : Int), by omega, by rfl, by rfl, HF2⟩
                  case measure => simp [intOf]
                · have HF2 : Hid (FoundE E p kk) := FoundE.no hp h1 HF.out
                  have gs : (E[p].st == 1) = false := by simpa using h1
                  clear h1
                  go_wp2_with fail
                  go_round
                  case rel => exact ⟨p, kk, by omega, by rfl, by rfl, HF2⟩
                  case measure => simp [intOf]
              | zero =>
                have c3 : ¬ (0 : Int) ≤ ((0 : Nat) : Int) - 1 := by omega
                go_upto_region 40 with fail
                rcases HF.out with ⟨rfl, hno⟩ | ⟨p, hp, rfl, _, h1, h0⟩
                · have P := pick_none (p := goB) (aftersB_true.2 I.out.ok) (I.out.none_go (fun x hx => by obtain ⟨q, hq, rfl⟩ := List.getElem_of_mem hx; exact hno q hq (Nat.zero_le _)))
                  have EB : bb = false := by rw [HBB.out, P.1]
                  have EN : Hid (N = a) := by show _ = _; rw [HN.out, P.2.1]
                  subst EB
                  clear P hno HF
                  refine wp_region_quiet_below (by kernel_rfl) (by kernel_rfl) ?_
                  repeat (first | go_big_quiet_step (fail) | quiet_step (fail))
                  refine wpQuiet_nil ?_
                  intro _ hw'
                  obtain ⟨⟨dq, osq⟩, hw''⟩ := hw'
                  subst hw''
                  obtain ⟨Y, hY⟩ : ∃ Y, Y = grow (redrawn V dq) osq := ⟨_, rfl⟩
                  have kY : Kept 0 0 V Y := by rw [hY]; exact Kept.regrown _ _ _
                  rw [← hY]
                  have zY := kY.size
                  have MY := Lib.hid (MV.out.step kY)
                  have BNY := Lib.hid (BN.out.kept kY (.inl (Nat.le_refl _)))
                  have OY := Lib.hid (OV.out.kept kY (.inl (Nat.le_refl _)))
                  obtain ⟨_, _, _, _, _, _, hbx, _⟩ := MY.out.rdA
                  have MF := Lib.hid (MY.out.put OY.out (by omega) (by omega) (.inl lt5.1) (.inl lt5.2.1))
                  have IN : Hid (InvA n (t + 1) N E) := by show InvA _ _ _ _; rw [EN.out]; exact I.out.next
                  have c0 := ax0 hbx
                  have c1 := ax1 hbx
                  have c2 := ax2 hbx
                  have f0 := hbx.frozen 0
                  have f1 := hbx.frozen 1
                  have f2 := hbx.frozen 2
                  have n0 := ax0 BNY.out
                  have n1 := ax1 BNY.out
                  have n2 := ax2 BNY.out
                  have nl := BNY.out.lt
                  have bl := hbx.lt
                  clear hY kY hbx MV BN BY OV
                  go_wp2_with fail
                  go_meet
                  exact ⟨E, N, b1, d1, b2, d2, b3, d3, rfl, rfl, rfl, MF.out, IN.out⟩
                · have P := I.out.first_go (by omega) hp h1 (fun q hq => h0 q hq (Nat.zero_le _))
                  have EB : bb = true := by rw [HBB.out, P.1]
                  have EN : Hid (N = awayA a (posE E p)) := by show _ = _; rw [HN.out, P.2.1]
                  have EY : y = aftE p E[p] := by rw [HY.out, P.2.2]
                  have lv : liveE E[p] = true := by simp [liveE, h1]
                  have IN : Hid (InvA n (t + 1) N (setSt E p 2)) := by show InvA _ _ _ _; rw [EN.out]; exact I.out.away (by omega) hp lv (by omega)
                  have HSM := Lib.hid (setSt_maps E p 2)
                  subst EB
                  have y0 := az0 BY.out
                  have y1 := az1 BY.out
                  have y2 := az2 BY.out
                  have y3 := az3 BY.out
                  rw [EY] at y0 y1 y2 y3
                  simp only [aftE] at y0 y1 y2 y3
                  have nn := MV.out.node_at (k := p) (by simpa using hp)
                  rw [show (E.map Ent.node)[p]'(by simpa using hp) = E[p].node from by simp] at nn
                  obtain ⟨hh1, hh2⟩ := MV.out.hd_at (k := p) (by simpa using hp)
                  rw [show (E.map Ent.hd)[p]'(by simpa using hp) = (E[p].slot, E[p].age) from by simp [Ent.hd]] at hh1 hh2
                  simp only at hh1 hh2
                  obtain ⟨x, hx⟩ : ∃ x, x = E[p] := ⟨_, rfl⟩
                  rw [← hx] at y0 y1 y2 nn hh1 hh2
                  have i2 : (p : Int) < (E.length : Int) := by omega
                  have i3 : (0 : Int) ≤ (p : Int) := by omega
                  have q0 : ((p : Int) != (p : Int)) = false := by simp
                  have q1 : (x.node != x.node) = false := by simp
                  have q2 : (x.slot == x.slot) = true := by simp
                  have q3 : (x.age == x.age) = true := by simp
                  have e0 := cell_regrown y0
                  have e1 := cell_regrown y1
                  have e2 := cell_regrown y2
                  have e3 := cell_regrown y3
                  have e4 := cell_regrown nn
                  have e5 := cell_regrown hh1
                  have e6 := cell_regrown hh2
                  clear P h1 h0 HF EY lv hx y0 y1 y2 y3 nn hh1 hh2
                  refine wp_region_quiet_below (by kernel_rfl) (by kernel_rfl) ?_
                  repeat (first | go_big_quiet_step (fail) | quiet_step (fail))
                  refine wpQuiet_nil ?_
                  intro _ hw'
                  obtain ⟨⟨dq, osq⟩, hw''⟩ := hw'
                  subst hw''
                  obtain ⟨Y, hY⟩ : ∃ Y, Y = grow (redrawn V dq) osq := ⟨_, rfl⟩
                  have kY : Kept 0 0 V Y := by rw [hY]; exact Kept.regrown _ _ _
                  rw [← hY]
                  have zY := kY.size
                  have MY := Lib.hid (MV.out.step kY)
                  have sp := MY.out.st_at (k := p) (by simpa using hp)
                  have sf := MY.out.r2.frozenAt p
                  have MS := Lib.hid (MY.out.state p 2)
                  obtain ⟨cs2, hb2⟩ := row_blk MY.out.r2 (b := b2) rfl
                  obtain ⟨Z, hZ⟩ : ∃ Z, Z = Y.setCell ⟨b2, p, none⟩ (.int .i64 2) := ⟨_, rfl⟩
                  have kZ : Kept b2 (b2 + 1) Y Z := by rw [hZ]; exact (Kept.refl b2 (b2 + 1) Y).setCell (p := ⟨b2, p, none⟩) (.inr ⟨Nat.le_refl _, Nat.lt_succ_self _⟩) _
                  rw [← hZ] at MS
                  have zZ := kZ.size
                  have BNY := BN.out.kept kY (.inl (Nat.le_refl _))
                  have BNZ := Lib.hid (blk_beside BNY (blk_ne BNY hb2 (by decide)) kZ)
                  have OZ := Lib.hid ((OV.out.kept kY (.inl (Nat.le_refl _))).kept kZ (.inr (.inr (by omega))))
                  obtain ⟨_, _, _, _, _, _, hbx, _⟩ := MS.out.rdA
                  have MF := Lib.hid (MS.out.put OZ.out (by omega) (by omega) (.inl lt5.1) (.inl lt5.2.1))
                  have HZ := Lib.hid hZ
                  clear hY kY hZ kZ MV BN BY OV e0 e1 e2 e3 e4 e5 e6 MY BNY hb2
                  go_upto_region 44 with fail
                  rw [← HZ.out]
                  clear sp sf HZ
                  have c0 := ax0 hbx
                  have c1 := ax1 hbx
                  have c2 := ax2 hbx
                  have f0 := hbx.frozen 0
                  have f1 := hbx.frozen 1
                  have f2 := hbx.frozen 2
                  have n0 := ax0 BNZ.out
                  have n1 := ax1 BNZ.out
                  have n2 := ax2 BNZ.out
                  have nl := BNZ.out.lt
                  have bl := hbx.lt
                  clear hbx MS
                  go_wp2_with fail
                  go_meet
                  exact ⟨setSt E p 2, N, b1, d1, b2, d2, b3, d3, by rw [setSt_len], by rw [setSt_len], by rw [setSt_len], by rw [HSM.out.1, HSM.out.2.1, HSM.out.2.2]; exact MF.out, IN.out⟩
        by_cases r2 : r = 2
        · as_aux_lemma =>
            have g0 : ((r : Int) == 0) = false := by simpa using r0
            have g1 : ((r : Int) == 1) = false := by simp; omega
            have g2 : ((r : Int) == 2) = true := by simp [r2]
            clear r0 r1 r2
            by_cases hE0 : 0 < E.length
            case neg =>
              have gz : ¬ (0 : Int) < (E.length : Int) := by omega
              have gz' : decide (0 < E.length) = false := by simpa using hE0
              clear hE0
              go_wp2_with fail
              go_meet
              exact ⟨E, a, b1, d1, b2, d2, b3, d3, rfl, rfl, rfl, M5.out, I.out.next⟩
            have gz : (0 : Int) < (E.length : Int) := by omega
            have gz' : decide (0 < E.length) = true := by simpa using hE0
            go_wp2_with fail
            with_reducible refine (belowD xs A c w.heap.size E.length _ M5.out.dice (by omega) (by omega)).mono ?_
            rintro e w6 ⟨k, rfl, hk0, hb, hk⟩
            have M6 := Lib.hid (M5.out.draw hk hb)
            have hkE : k < E.length := by omega
            obtain ⟨F1, f1, F2, f2, F3, f3, hbx, hra⟩ := M6.out.rdA
            have BX := Lib.hid hbx
            have RA := Lib.hid hra
            have OA := Lib.hid (I.out.off_at (by omega) hkE)
            obtain ⟨x, hx⟩ : ∃ x, x = E[k] := ⟨_, rfl⟩
            obtain ⟨hh1, hh2⟩ := M6.out.hd_at (k := k) (by simpa using hkE)
            rw [show (E.map Ent.hd)[k]'(by simpa using hkE) = (E[k].slot, E[k].age) from by simp [Ent.hd]] at hh1 hh2
            simp only at hh1 hh2
            rw [← hx] at hh1 hh2 OA
            have HX2 := Lib.hid hx
            obtain ⟨N, hN⟩ : ∃ N, N = pickA (offB x.slot x.age) a := ⟨_, rfl⟩
            obtain ⟨bb, hbb⟩ : ∃ bb, bb = pickB (offB x.slot x.age) a := ⟨_, rfl⟩
            have CC : Hid (∀ X, Kept 0 0 w6 X → Calls Try.prog 16 #[.agg #[.slice F1 a.slots.ages.length f1, .slice F2 a.slots.used.length f2, .slice F3 a.list.length f3], .agg #[.int .i64 x.slot, .int .i64 x.age]] X fun e w' => ∃ z, e = .returned (.tuple #[z, .bool bb]) ∧ OwnAs w' X.heap.size w'.heap.size z N ∧ Kept 0 0 X w') := fun X hX => by
              have := implOff a x.slot x.age _ X (RA.out.up hX)
              rw [← hN, ← hbb] at this
              exact this
            rw [← hN, ← hbb] at OA
            have lt6 := M6.out.lt1
            have c0 := ax0 BX.out
            have c1 := ax1 BX.out
            have c2 := ax2 BX.out
            have i2 : (k : Int) < (E.length : Int) := by omega
            clear hb hk M5 hbx hra hx hN hbb gz gz' hE0 hk0
            go_upto_region 48 with fail
            go_cut [19, 20] (fun p q wx => AfsAt w6 wx p N ∧ q = .bool bb)
            case first =>
              go_region_with (first
                | ((with_reducible refine (CC.out _ (Kept.refl 0 0 w6).drew).mono ?_); rintro e w7 ⟨_, rfl, ⟨_, _, _, rfl, ⟨E1, k1, rfl, o1⟩, ⟨E2, k2, rfl, o2⟩, ⟨E3, k3, rfl, o3⟩⟩, hk⟩; have k7 : Kept 0 0 w6 w7 := (Kept.refl 0 0 w6).drew.trans hk; have OO := Lib.hid (show OwnAs w7 w6.heap.size w7.heap.size (.agg #[.slice E1 N.slots.ages.length k1, .slice E2 N.slots.used.length k2, .slice E3 N.list.length k3]) N from ⟨_, _, _, rfl, ⟨E1, k1, rfl, o1⟩, ⟨E2, k2, rfl, o2⟩, ⟨E3, k3, rfl, o3⟩⟩))
                | ((with_reducible refine (CC.out _ (Kept.alloc0 w6 (.cells #[.slice none 0 0, .slice none 0 0, .slice none 0 0] 34)).drew).mono ?_); rintro e w7 ⟨_, rfl, ⟨_, _, _, rfl, ⟨E1, k1, rfl, o1⟩, ⟨E2, k2, rfl, o2⟩, ⟨E3, k3, rfl, o3⟩⟩, hk⟩; have k7 : Kept 0 0 w6 w7 := (Kept.alloc0 w6 (.cells #[.slice none 0 0, .slice none 0 0, .slice none 0 0] 34)).drew.trans hk; have OO := Lib.hid (show OwnAs w7 (w6.heap.size + 1) w7.heap.size (.agg #[.slice E1 N.slots.ages.length k1, .slice E2 N.slots.used.length k2, .slice E3 N.list.length k3]) N from OwnAs.wide ⟨_, _, _, rfl, ⟨E1, k1, rfl, o1⟩, ⟨E2, k2, rfl, o2⟩, ⟨E3, k3, rfl, o3⟩⟩ (by simp) (Nat.le_refl _)); have bx := (Blk.new w6 34 #[.slice none 0 0, .slice none 0 0, .slice none 0 0]).drew.kept hk (.inl (Nat.le_refl _)); have HBX := Lib.hid bx; have u0 := ax0 bx; have u1 := ax1 bx; have u2 := ax2 bx; have v0 := bx.frozen 0; have v1 := bx.frozen 1; have v2 := bx.frozen 2))
              all_goals (go_wp2_with fail; go_meet)
              all_goals first
                | exact ⟨afsAt_new OO.out k7 (Nat.le_refl _), rfl⟩
                | exact ⟨afsAt_set HBX.out OO.out k7 (Nat.le_refl _) (Nat.le_succ _) (Nat.lt_succ_self _), rfl⟩
            case rest =>
              obtain ⟨X, rfl⟩ : ∃ X : World, X = wc := ⟨_, rfl⟩
              obtain ⟨⟨rb, lo, hi, E1, E2, E3, k1, k2, k3, rfl, hr, hlo, hhi, hsp, hb, ho, hk⟩, rfl⟩ := hcut
              have MX := Lib.hid (M6.out.step hk)
              have BN := Lib.hid hb
              have ON := Lib.hid ho
              have sp := MX.out.st_at (k := k) (by simpa using hkE)
              rw [show (E.map Ent.st)[k]'(by simpa using hkE) = x.st from by rw [HX2.out]; simp] at sp
              clear hb ho hk c0 c1 c2 hh1 hh2 CC M6 BX RA
              by_cases q : x.st = 0
              · have P := OA.out
                rw [if_pos q] at P
                have EB : bb = true := P.1
                subst EB
                have lv : liveE E[k] = true := by rw [← HX2.out]; simp [liveE, q]
                have IN : Hid (InvA n (t + 1) N (setSt E k 3)) := by show InvA _ _ _ _; rw [P.2]; exact I.out.away (by omega) hkE lv (by omega)
                have HSM := Lib.hid (setSt_maps E k 3)
                have gs : (x.st == 0) = true := by simpa using q
                have sf := MX.out.r2.frozenAt k
                have MS := Lib.hid (MX.out.state k 3)
                obtain ⟨cs2, hb2⟩ := row_blk MX.out.r2 (b := b2) rfl
                obtain ⟨Z, hZ⟩ : ∃ Z, Z = X.setCell ⟨b2, k, none⟩ (.int .i64 3) := ⟨_, rfl⟩
                have kZ : Kept b2 (b2 + 1) X Z := by rw [hZ]; exact (Kept.refl b2 (b2 + 1) X).setCell (p := ⟨b2, k, none⟩) (.inr ⟨Nat.le_refl _, Nat.lt_succ_self _⟩) _
                rw [← hZ] at MS
                have zZ := kZ.size
                have BNZ := Lib.hid (blk_beside BN.out (blk_ne BN.out hb2 (by decide)) kZ)
                have OZ := Lib.hid (ON.out.kept kZ (.inr (.inr (by omega))))
                obtain ⟨_, _, _, _, _, _, hbx, _⟩ := MS.out.rdA
                have MF := Lib.hid (MS.out.put OZ.out (by omega) (by omega) (.inl (by omega)) (.inl (by omega)))
                have HZ := Lib.hid hZ
                clear P q lv hZ kZ MX BN ON hb2 OA
                go_upto_region 53 with fail
                rw [← HZ.out]
                clear sp sf HZ gs
                have c0 := ax0 hbx
                have c1 := ax1 hbx
                have c2 := ax2 hbx
                have f0 := hbx.frozen 0
                have f1 := hbx.frozen 1
                have f2 := hbx.frozen 2
                have n0 := ax0 BNZ.out
                have n1 := ax1 BNZ.out
                have n2 := ax2 BNZ.out
                have nl := BNZ.out.lt
                have bl := hbx.lt
                clear hbx MS
                go_wp2_with fail
                go_meet
                exact ⟨setSt E k 3, N, b1, d1, b2, d2, b3, d3, by rw [setSt_len], by rw [setSt_len], by rw [setSt_len], by rw [HSM.out.1, HSM.out.2.1, HSM.out.2.2]; exact MF.out, IN.out⟩
              · have P := OA.out
                rw [if_neg q] at P
                have EB : bb = false := P.1
                subst EB
                have IN : Hid (InvA n (t + 1) N E) := by show InvA _ _ _ _; rw [P.2]; exact I.out.next
                have gs : (x.st == 0) = false := by simpa using q
                obtain ⟨_, _, _, _, _, _, hbx, _⟩ := MX.out.rdA
                have MF := Lib.hid (MX.out.put ON.out (by omega) (by omega) (.inl (by omega)) (.inl (by omega)))
                clear P q OA
                have c0 := ax0 hbx
                have c1 := ax1 hbx
                have c2 := ax2 hbx
                have f0 := hbx.frozen 0
                have f1 := hbx.frozen 1
                have f2 := hbx.frozen 2
                have n0 := ax0 BN.out
                have n1 := ax1 BN.out
                have n2 := ax2 BN.out
                have nl := BN.out.lt
                have bl := hbx.lt
                clear hbx MX
                go_wp2_with fail
                go_meet
                exact ⟨E, N, b1, d1, b2, d2, b3, d3, rfl, rfl, rfl, MF.out, IN.out⟩
        as_aux_lemma =>
          have g0 : ((r : Int) == 0) = false := by simpa using r0
          have g1 : ((r : Int) == 1) = false := by simp; omega
          have g2 : ((r : Int) == 2) = false := by simp; omega
          clear r0 r1 r2
          go_wp2_with fail
          with_reducible refine (belowD xs A c w.heap.size 3 _ M5.out.dice (by omega) (by omega)).mono ?_
          rintro e w6 ⟨m, rfl, hm0, hb, hk⟩
          have M6 := Lib.hid (M5.out.draw hk hb)
          obtain ⟨F1, f1, F2, f2, F3, f3, hbx, hra⟩ := M6.out.rdA
          have BX := Lib.hid hbx
          have RG := Lib.hid (I.out.reg (by omega) (m := (m : Int)) (fn := (E.length : Int)) (by omega) rfl (by omega))
          have CR := Lib.hid (implReg a (m : Int) (E.length : Int) _ w6 hra)
          have CU : Hid (∀ X, Kept 0 0 w6 X → Calls Try.prog 18 #[.agg #[.slice F1 a.slots.ages.length f1, .slice F2 a.slots.used.length f2]] X fun e w' => e = .returned (.int .i64 (slUsed a.slots)) ∧ Kept 0 0 X w') := fun X hX => implUsed a.slots _ X (hra.up hX).sl.1
          obtain ⟨N, hN⟩ : ∃ N, N = regA a (m : Int) (E.length : Int) := ⟨_, rfl⟩
          obtain ⟨bb, hbb⟩ : ∃ bb, bb = regB a (m : Int) (E.length : Int) := ⟨_, rfl⟩
          obtain ⟨y, hy⟩ : ∃ y, y = regH a (m : Int) (E.length : Int) := ⟨_, rfl⟩
          obtain ⟨q, hq⟩ : ∃ q, q = slUsed a.slots := ⟨_, rfl⟩
          rw [← hN, ← hbb, ← hy] at CR RG
          rw [← hq] at CU RG
          have lt6 := M6.out.lt1
          have c0 := ax0 BX.out
          have c1 := ax1 BX.out
          have c2 := ax2 BX.out
          have II := I
          clear hbx hra hN hbb hy hq M5 hb hk I
          go_wp2_with fail
          with_reducible refine CR.out.mono ?_
          rintro e w7 ⟨_, rfl, ⟨_, _, _, rfl, ⟨E1, k1, rfl, o1⟩, ⟨E2, k2, rfl, o2⟩, ⟨E3, k3, rfl, o3⟩⟩, hk⟩
          obtain ⟨V, hV⟩ : ∃ V, V = (w7.alloc (.cells #[.slice E1 N.slots.ages.length k1, .slice E2 N.slots.used.length k2, .slice E3 N.list.length k3] 34)).alloc (.cells #[.int .i64 y.1, .int .i64 y.2] 40) := ⟨_, rfl⟩
          have kV : Kept 0 0 w7 V := by rw [hV]; exact (Kept.alloc0 _ _).alloc _
          have zV : w7.heap.size + 2 = V.heap.size := by rw [hV]; simp
          have z7 := hk.size
          have BN : Hid (Blk V w7.heap.size 34 #[.slice E1 N.slots.ages.length k1, .slice E2 N.slots.used.length k2, .slice E3 N.list.length k3]) := by show Blk _ _ _ _; rw [hV]; exact (Blk.new _ _ _).alloc _
          have BY : Hid (Blk V (w7.heap.size + 1) 40 #[.int .i64 y.1, .int .i64 y.2]) := by
            show Blk _ _ _ _
            rw [hV]
            have := Blk.new (w7.alloc (.cells #[.slice E1 N.slots.ages.length k1, .slice E2 N.slots.used.length k2, .slice E3 N.list.length k3] 34)) 40 #[.int .i64 y.1, .int .i64 y.2]
            simpa using this
          have MV := Lib.hid (M6.out.step (hk.trans kV))
          have OV : Hid (OwnAs V w6.heap.size w7.heap.size (.agg #[.slice E1 N.slots.ages.length k1, .slice E2 N.slots.used.length k2, .slice E3 N.list.length k3]) N) := OwnAs.kept (⟨_, _, _, rfl, ⟨E1, k1, rfl, o1⟩, ⟨E2, k2, rfl, o2⟩, ⟨E3, k3, rfl, o3⟩⟩ : OwnAs w7 w6.heap.size w7.heap.size _ _) kV (.inl (Nat.le_refl _))
          have CV := Lib.hid (CU.out V (hk.trans kV))
          have BXV := Lib.hid (BX.out.kept (hk.trans kV) (.inl (Nat.le_refl _)))
          have HV := Lib.hid hV
          clear hV kV o1 o2 o3 hk CR BX c0 c1 c2 M6 CU
          go_upto_region 17 with fail
          rw [← HV.out]
          clear HV
          have c0 := ax0 BXV.out
          have c1 := ax1 BXV.out
          go_wp2_with fail
          with_reducible refine CV.out.mono ?_
          rintro e w8 ⟨rfl, hk⟩
          have z8 := hk.size
          have M8 := Lib.hid (MV.out.step hk)
          have B8 := Lib.hid (BN.out.kept hk (.inl (Nat.le_refl _)))
          have Y8 := Lib.hid (BY.out.kept hk (.inl (Nat.le_refl _)))
          have O8 := Lib.hid (OV.out.kept hk (.inl (Nat.le_refl _)))
          clear hk MV BN BY OV BXV c0 c1 CV
          by_cases hlt2 : q < (n : Int)
          · have EB : bb = true := by rw [RG.out.1]; simpa using hlt2
            subst EB
            have IN := Lib.hid (RG.out.2.2 rfl)
            have gd : decide (q < (n : Int)) = true := by simpa using hlt2
            clear RG
            have HS := Lib.hid iSlice
            have HD := Lib.hid hdSlice
            have hW9 : w8.heap.size + 1 = (w8.alloc (.cells #[.int .i64 (m : Int)] 2)).heap.size := by simp
            have HW9 := Lib.hid hW9
            clear hW9
            go_upto_region 21 with (at_builtin; refine wpList_app (R := iR) rfl (.tmp 69) (.tmp 71) rfl HS.out (w.heap.size + 1) (some ⟨b1, 0, none⟩) d1 (E.map Ent.node) (by rw [List.length_map]; rfl) (by exact (M8.out.step (Kept.alloc0 _ _)).r1) (w8.heap.size + 1) (some ⟨w8.heap.size, 0, none⟩) 1 [(m : Int)] rfl (rd_litE w8 m) (by simp [maxLen]; omega) (by simp; omega) (by have := M8.out.lt1; simp; omega) ?_; intro D9 d9 w9 hown hgrow hat; have kk : Kept b1 (b1 + 1) w8 w9 := ((Kept.alloc0 w8 (.cells #[.int .i64 (m : Int)] 2)).wide (lo' := b1) (hi' := b1 + 1) (.inl (Nat.le_refl _))).trans (kept_row hgrow); obtain ⟨p1, rfl, hm9⟩ := (M8.out.step (Kept.alloc0 _ _)).app1 hgrow hown hat; have hp1 : p1 = b1 ∨ p1 = w8.heap.size + 1 := (by simpa [rowAt] using hat); have z9 := kk.size; have M9 := Lib.hid hm9; have B9 := Lib.hid (blk_beside B8.out (by omega) kk); have Y9 := Lib.hid (blk_beside Y8.out (by omega) kk); have O9 := Lib.hid (O8.out.kept kk (by omega)); clear hown hgrow hat hm9 kk)
            clear M8 B8 Y8 O8 HW9
            go_upto_region 22 with (at_builtin; refine wpList_app (R := iR) rfl (.tmp 73) (.tmp 74) rfl HS.out (w.heap.size + 1) (some ⟨b2, 0, none⟩) d2 (E.map Ent.st) (by rw [List.length_map]; rfl) (by exact (M9.out.step (Kept.alloc0 _ _)).r2) (w9.heap.size + 1) (some ⟨w9.heap.size, 0, none⟩) 1 [(0 : Int)] rfl (rd_litE w9 0) (by simp [maxLen]; omega) (by simp; omega) (by have := M9.out.lt1; simp; omega) ?_; intro D10 d10 w10 hown hgrow hat; have kk : Kept b2 (b2 + 1) w9 w10 := ((Kept.alloc0 w9 (.cells #[.int .i64 0] 2)).wide (lo' := b2) (hi' := b2 + 1) (.inl (Nat.le_refl _))).trans (kept_row hgrow); obtain ⟨p2, rfl, hm10⟩ := (M9.out.step (Kept.alloc0 _ _)).app2 hgrow hown hat; have hp2 : p2 = b2 ∨ p2 = w9.heap.size + 1 := (by simpa [rowAt] using hat); have z10 := kk.size; have M10 := Lib.hid hm10; have B10 := Lib.hid (blk_beside B9.out (by omega) kk); have Y10 := Lib.hid (blk_beside Y9.out (by omega) kk); have O10 := Lib.hid (O9.out.kept kk (by omega)); clear hown hgrow hat hm10 kk)
            clear M9 B9 Y9 O9
            have y0 := ay0 Y10.out
            have y1 := ay1 Y10.out
            have yl := Y10.out.lt
            go_upto_region 23 with (at_builtin; refine wpList_app (R := hdR) rfl (.tmp 76) (.tmp 78) rfl HD.out (w.heap.size + 1) (some ⟨b3, 0, none⟩) d3 (E.map Ent.hd) (by rw [List.length_map]; rfl) (by exact (M10.out.step (Kept.alloc0 _ _)).r3) (w10.heap.size + 1) (some ⟨w10.heap.size, 0, none⟩) 1 [(y.1, y.2)] rfl (by exact ⟨by simp [maxLen], fun _ => ⟨_, rfl, Nat.lt_succ_self _, fun j u hu => new_cells (Blk.new w10 40 #[.int .i64 y.1, .int .i64 y.2]) j u hu⟩⟩) (by simp [maxLen]; omega) (by simp; omega) (by have := M10.out.lt1; simp; omega) ?_; intro D11 d11 w11 hown hgrow hat; have kk : Kept b3 (b3 + 1) w10 w11 := ((Kept.alloc0 w10 (.cells #[.int .i64 y.1, .int .i64 y.2] 40)).wide (lo' := b3) (hi' := b3 + 1) (.inl (Nat.le_refl _))).trans (kept_row hgrow); obtain ⟨p3, rfl, hm11⟩ := (M10.out.step (Kept.alloc0 _ _)).app3 hgrow hown; have z11 := kk.size; have M11 := Lib.hid hm11; have B11 := Lib.hid (blk_beside B10.out (by omega) kk); have O11 := Lib.hid (O10.out.kept kk (by omega)); clear hown hgrow hat hm11 kk)
            clear M10 B10 Y10 O10 y0 y1 yl
            obtain ⟨_, _, _, _, _, _, hbx, _⟩ := M11.out.rdA
            have MF := Lib.hid (M11.out.put O11.out (by omega) (by omega) (by omega) (by omega))
            have c0 := ax0 hbx
            have c1 := ax1 hbx
            have c2 := ax2 hbx
            have f0 := hbx.frozen 0
            have f1 := hbx.frozen 1
            have f2 := hbx.frozen 2
            have n0 := ax0 B11.out
            have n1 := ax1 B11.out
            have n2 := ax2 B11.out
            have nl := B11.out.lt
            have bl := hbx.lt
            clear hbx M11
            go_wp2_with fail
            go_meet
            exact ⟨E ++ [⟨(m : Int), 0, y.1, y.2⟩], N, p1, d9, p2, d10, p3, d11, by simp, by simp, by simp, by rw [List.map_append, List.map_append, List.map_append]; exact MF.out, IN.out⟩
          · have EB : bb = false := by rw [RG.out.1]; simpa using hlt2
            subst EB
            have IN : Hid (InvA n (t + 1) N E) := by show InvA _ _ _ _; rw [RG.out.2.1 rfl]; exact II.out.next
            have gd : decide (q < (n : Int)) = false := by simpa using hlt2
            clear RG II
            obtain ⟨_, _, _, _, _, _, hbx, _⟩ := M8.out.rdA
            have MF := Lib.hid (M8.out.put O8.out (by omega) (by omega) (by omega) (by omega))
            have c0 := ax0 hbx
            have c1 := ax1 hbx
            have c2 := ax2 hbx
            have f0 := hbx.frozen 0
            have f1 := hbx.frozen 1
            have f2 := hbx.frozen 2
            have n0 := ax0 B8.out
            have n1 := ax1 B8.out
            have n2 := ax2 B8.out
            have nl := B8.out.lt
            have bl := hbx.lt
            clear hbx M8
            go_wp2_with fail
            go_meet
            exact ⟨E, N, b1, d1, b2, d2, b3, d3, rfl, rfl, rfl, MF.out, IN.out⟩
      case rest =>
        as_aux_lemma =>
          obtain ⟨X, rfl⟩ : ∃ X : World, X = wc := ⟨_, rfl⟩
          obtain ⟨E2, a2, p1, e1, p2, e2, p3, e3, rfl, rfl, rfl, hm2, hinv2⟩ := hcut.out
          have M2 := Lib.hid hm2
          have I2 := Lib.hid hinv2
          have hE2 : E2.length ≤ t + 1 := hinv2.count
          clear hm2 hinv2 hcut M5 I
          go_wp2_with fail
          go_loop [25, 26] (fun u i => ∃ k : Nat, k ≤ E2.length ∧ i = .int .i64 k ∧ u = .int .i64 (cntE E2 k : Nat)) (fun _ i => E2.length - (intOf i).toNat)
          case atStart => exact ⟨0, Nat.zero_le _, by rfl, by simp [cntE, liveN]⟩
          case round =>
            obtain ⟨k, hk, rfl, rfl⟩ := hrel
            by_cases hk2 : k < E2.length
            · have i2 : (k : Int) < (E2.length : Int) := by omega
              have s1 := M2.out.st_at (k := k) (by simpa using hk2)
              rw [show (E2.map Ent.st)[k]'(by simpa using hk2) = E2[k].st from by simp] at s1
              have EC := cntE_succ E2 hk2
              have cb : cntE E2 k ≤ 24 := by have := liveN_le (E2.take k); have : (E2.take k).length ≤ k := List.length_take_le _ _; unfold cntE; omega
              obtain ⟨x, hx⟩ : ∃ x, x = E2[k] := ⟨_, rfl⟩
              rw [← hx] at s1 EC
              obtain ⟨q, hq⟩ : ∃ q, q = cntE E2 k := ⟨_, rfl⟩
              rw [← hq] at EC cb ⊢
              clear hx hq
              by_cases q1 : x.st < 2
              · have EQ : Hid (cntE E2 (k + 1) = q + 1) := by show _ = _; rw [EC, if_pos q1]
                have g1 : decide (x.st < 2) = true := by simpa using q1
                clear q1 EC
                go_wp2_with fail
                go_round
                case rel => exact ⟨k + 1, by omega, by go_num, by rw [EQ.out]; go_num⟩
                case measure => simp [intOf]; omega
              · have EQ : Hid (cntE E2 (k + 1) = q) := by show _ = _; rw [EC, if_neg q1]; rfl
                have g1 : decide (x.st < 2) = false := by simpa using q1
                clear q1 EC
                go_wp2_with fail
                go_round
                case rel => exact ⟨k + 1, by omega, by go_num, by rw [EQ.out]⟩
                case measure => simp [intOf]; omega
            · have i2 : ¬ (k : Int) < (E2.length : Int) := by omega
              have hL : a2.list.length = liveN E2 := by rw [I2.out.list, live_len]
              rw [cntE_all E2 (by omega)]
              have lb : liveN E2 ≤ 24 := by have := liveN_le E2; omega
              obtain ⟨F1, f1, F2, f2, F3, f3, hbx, hra⟩ := M2.out.rdA
              have BX := Lib.hid hbx
              have RA := Lib.hid hra
              have CU := Lib.hid (implUsed a2.slots _ X RA.out.sl.1)
              rw [I2.out.used] at CU
              obtain ⟨q, hq⟩ : ∃ q, q = liveN E2 := ⟨_, rfl⟩
              rw [← hq] at CU lb hL ⊢
              have HL := Lib.hid hL
              have gq : ((q : Int) != (q : Int)) = false := by simp
              have c0 := ax0 BX.out
              have c1 := ax1 BX.out
              clear hbx hra hq hL
              go_wp2_with fail
              with_reducible refine CU.out.mono ?_
              rintro e w7 ⟨rfl, hk7⟩
              have M7 := Lib.hid (M2.out.step hk7)
              have B7 := Lib.hid (BX.out.kept hk7 (.inl (Nat.le_refl _)))
              have CO := Lib.hid (implAs a2 _ w7 (RA.out.up hk7))
              rw [aftersB_true.2 I2.out.ok] at CO
              have c0 := ax0 B7.out
              have c1 := ax1 B7.out
              have c2 := ax2 B7.out
              rw [HL.out] at c2 CO
              clear hk7 CU BX
              go_wp2_with fail
              with_reducible refine CO.out.mono ?_
              rintro e w8 ⟨rfl, hk8⟩
              have M8 := Lib.hid (M7.out.step hk8)
              clear hk8 CO c0 c1 c2 B7
              go_wp2_with fail
              go_roundw
              case rel => exact ⟨t + 1, by omega, by go_num, Lib.hid (show LawSt _ _ _ _ _ _ _ _ _ _ _ from ⟨E2, a2, p1, e1, p2, e2, p3, e3, rfl, rfl, rfl, M8.out, I2.out⟩)⟩
              case measure => simp [intOf]; omega
    · have i1 : ¬ (t : Int) < 24 := by omega
      go_wp2_with fail
      go_ret
      exact ⟨rfl, M.out.k⟩
end Go.Proofs.Ytnnbfcmbcjkpoaa
