/- The laws' helpers over slots as one value (copy, size, compare, mark, check marks); no condition beyond what each theorem states. Out of the same helpers over spreads. -/
import Derived.Test.YtnnbfcmbcjkpoaaBa
namespace Go.Proofs.Ytnnbfcmbcjkpoaa
open Go.RowKit Go.Sort

set_option maxHeartbeats 800000 in
theorem toSl (t : Slt) (v : Value) (w : World) (h : RdSl w w.heap.size v t) (hn : t.ages.length ≤ 1048576) (hn' : t.used.length ≤ 1048576) :
    Calls Try.prog 50 #[v] w fun e w' => ∃ u, e = .returned u ∧ OwnSl w' w.heap.size w'.heap.size u t ∧ Kept 0 0 w w' := by
  obtain ⟨hv, lv, rfl, h1, h2⟩ := h
  obtain ⟨A1, c1, e1, s1⟩ := h1
  obtain ⟨A2, c2, e2, s2⟩ := h2
  subst e1 e2
  obtain ⟨V, hV⟩ : ∃ V, V = ((w.alloc (.cells #[.slice A1 t.ages.length c1, .slice A2 t.used.length c2] 50)).alloc (.cells #[.slice none 0 0, .slice none 0 0] 31)).alloc (.cells #[.slice none 0 0, .slice none 0 0] 31) := ⟨_, rfl⟩
  have KV : Hid (Kept 0 0 w V) := by show Kept _ _ _ _; rw [hV]; exact ((Kept.alloc0 _ _).alloc _).alloc _
  have B0 : Hid (Blk V w.heap.size 50 #[.slice A1 t.ages.length c1, .slice A2 t.used.length c2]) := by show Blk _ _ _ _; rw [hV]; exact ((Blk.new _ _ _).alloc _).alloc _
  have B1 : Hid (Blk V (w.heap.size + 1) 31 #[.slice none 0 0, .slice none 0 0]) := by
    show Blk _ _ _ _
    rw [hV]
    have := Blk.new (w.alloc (.cells #[.slice A1 t.ages.length c1, .slice A2 t.used.length c2] 50)) 31 #[.slice none 0 0, .slice none 0 0]
    simp only [World.size_alloc] at this
    exact this.alloc _
  have B2 : Hid (Blk V (w.heap.size + 2) 31 #[.slice none 0 0, .slice none 0 0]) := by
    show Blk _ _ _ _
    rw [hV]
    have := Blk.new ((w.alloc (.cells #[.slice A1 t.ages.length c1, .slice A2 t.used.length c2] 50)).alloc (.cells #[.slice none 0 0, .slice none 0 0] 31)) 31 #[.slice none 0 0, .slice none 0 0]
    simpa using this
  have CT := Lib.hid (toI t.ages (.slice A1 t.ages.length c1) V (RdI.up ⟨A1, c1, rfl, s1⟩ KV.out) hn)
  have S2 : Hid (RdB w w.heap.size (.slice A2 t.used.length c2) t.used) := ⟨A2, c2, rfl, s2⟩
  clear s1 s2
  have zV : V.heap.size = w.heap.size + 3 := by rw [hV]; simp
  have z1 : w.heap.size + 3 ≤ V.heap.size := by omega
  have z0 : w.heap.size ≤ V.heap.size := by omega
  clear zV
  go_enter Try.func50, Try.ntmps50
  go_wp2_with fail
  rw [← hV]
  with_reducible refine CT.out.mono ?_
  rintro e w1 ⟨u1, rfl, ho, hk⟩
  obtain ⟨D1, d1, rfl, o1⟩ := ho
  have O1 := Lib.hid o1
  have K1 := Lib.hid hk
  have y1 := hk.size
  have C0 := Lib.hid (B0.out.kept hk (.inl (Nat.le_refl _)))
  have C1 := Lib.hid (B1.out.kept hk (.inl (Nat.le_refl _)))
  have C2 := Lib.hid (B2.out.kept hk (.inl (Nat.le_refl _)))
  clear o1 hk hV CT B0 B1 B2
  obtain ⟨V2, hV2⟩ : ∃ V2, V2 = w1.setCell ⟨w.heap.size + 2, 0, none⟩ (.slice D1 t.ages.length d1) := ⟨_, rfl⟩
  have KV2 : Hid (Kept (w.heap.size + 2) (w.heap.size + 3) w1 V2) := by show Kept _ _ _ _; rw [hV2]; exact (Kept.refl (w.heap.size + 2) (w.heap.size + 3) w1).setCell (.inr ⟨Nat.le_refl _, by show w.heap.size + 2 < _; omega⟩) _
  have E0 := Lib.hid (C0.out.kept KV2.out (.inr (.inl (by omega))))
  have E1 := Lib.hid (C1.out.kept KV2.out (.inr (.inl (by omega))))
  have E2 : Hid (Blk V2 (w.heap.size + 2) 31 #[.slice D1 t.ages.length d1, .slice none 0 0]) := by show Blk _ _ _ _; rw [hV2]; exact C2.out.set_ 0 _
  have O2 := Lib.hid (O1.out.kept KV2.out (.inr (.inr (by omega))))
  have K2 := Lib.hid ((KV.out.trans K1.out).trans2 KV2.out (.inr (by omega)))
  have zz : V2.heap.size = w1.heap.size := by rw [hV2]; simp
  have y2 : w1.heap.size ≤ V2.heap.size := by omega
  have y2' : V2.heap.size ≤ w1.heap.size := by omega
  clear zz
  have CT := Lib.hid (toB t.used _ V2 (S2.out.up K2.out) hn')
  have c00 := C0.out.cell 1
  have c20 := C2.out.cell 0
  have f20 := C2.out.frozen 0
  go_wp2_with fail
  rw [← hV2]
  clear c00 c20 f20
  with_reducible refine CT.out.mono ?_
  rintro e w2 ⟨u2, rfl, ho, hk⟩
  obtain ⟨D2, d2, rfl, o2⟩ := ho
  have P2 := Lib.hid o2
  have P1 := Lib.hid (O2.out.kept hk (.inl (Nat.le_refl _)))
  have K3 := Lib.hid (K2.out.trans hk)
  have y3 := hk.size
  have G0 := Lib.hid (E0.out.kept hk (.inl (Nat.le_refl _)))
  have G1 := Lib.hid (E1.out.kept hk (.inl (Nat.le_refl _)))
  have G2 := Lib.hid (E2.out.kept hk (.inl (Nat.le_refl _)))
  clear o2 hk hV2 CT E0 E1 E2 C0 C1 C2 KV2 O2 K2 K1 KV O1 S2
  have b10 := G1.out.cell 0
  have b11 := G1.out.cell 1
  have b20 := G2.out.cell 0
  have b21 := G2.out.cell 1
  have f10 := G1.out.frozen 0
  have f11 := G1.out.frozen 1
  have f21 := G2.out.frozen 1
  simp only [List.getElem?_toArray, List.getElem?_cons_succ, List.getElem?_cons_zero] at b10 b11 b20 b21
  obtain ⟨F, hF⟩ : ∃ F, F = (((w2.setCell ⟨w.heap.size + 1 + 1, 1, none⟩ (.slice D2 t.used.length d2)).setCell ⟨w.heap.size + 1, 0, none⟩ (.slice D1 t.ages.length d1)).setCell ⟨w.heap.size + 1, 1, none⟩ (.slice D2 t.used.length d2)) := ⟨_, rfl⟩
  have KF : Hid (Kept (w.heap.size + 1) (w.heap.size + 3) w2 F) := by
    show Kept _ _ _ _
    rw [hF]
    refine (((Kept.refl (w.heap.size + 1) (w.heap.size + 3) w2).setCell (.inr ⟨?_, ?_⟩) _).setCell (.inr ⟨?_, ?_⟩) _).setCell (.inr ⟨?_, ?_⟩) _ <;> (simp only; omega)
  have BF : Hid (Blk F (w.heap.size + 1) 31 #[.slice D1 t.ages.length d1, .slice D2 t.used.length d2]) := by
    show Blk _ _ _ _
    rw [hF]
    exact ((G1.out.far (by simp only; omega) _).set_ 0 _).set_ 1 _
  have F0 : F.cell? ⟨w.heap.size + 1, 0, none⟩ = some (.slice D1 t.ages.length d1) := BF.out.cell 0
  have F1 : F.cell? ⟨w.heap.size + 1, 1, none⟩ = some (.slice D2 t.used.length d2) := BF.out.cell 1
  have F2 : True := trivial
  have HF := Lib.hid hF
  have FF := Lib.hid (And.intro F0 (And.intro F1 F2))
  clear hF F0 F1 F2
  go_wp2_with fail
  rw [← HF.out]
  obtain ⟨F0, F1, F2⟩ := FF.out
  have q1 := KF.out.size
  refine bodyPost_ret (v := .agg #[.slice D1 t.ages.length d1, .slice D2 t.used.length d2]) (by simp [results, Try.results50, go_sem, F0, F1]) rfl ⟨_, rfl, ⟨_, _, rfl, ⟨D1, d1, rfl, ?_⟩, ⟨D2, d2, rfl, ?_⟩⟩, ?_⟩
  · exact (P1.out.kept KF.out (.inr (.inr (by omega)))).wide z0 (by omega)
  · exact (P2.out.kept KF.out (.inr (.inr (by omega)))).wide (by omega) q1
  · exact K3.out.trans2 KF.out (.inr (by omega))

set_option maxHeartbeats 400000 in
theorem szSl_pos (t : Slt) (v : Value) (left : Int) (w : World) (B : Nat) (h : RdSl w B v t) (h0 : (t.ages.length : Int) + t.used.length ≤ left) (h1 : left ≤ 1048576) :
    Calls Try.prog 44 #[v, .int .i64 left] w fun e w' => e = .returned (.int .i64 (left - t.ages.length - t.used.length)) ∧ Kept 0 0 w w' := by
  obtain ⟨hv, lv, rfl, h2, h3⟩ := h
  have m1 := h2.len
  have m2 := h3.len
  obtain ⟨A1, c1, rfl, _⟩ := h2
  obtain ⟨A2, c2, rfl, _⟩ := h3
  have E1 : Hid (szF left t.ages.length = left - t.ages.length) := szF_pos (by omega)
  have E2 : Hid (szF (left - t.ages.length) t.used.length = left - t.ages.length - t.used.length) := szF_pos (by omega)
  go_enter Try.func44, Try.ntmps44
  go_wp2_with fail
  with_reducible refine (szIS_any _ _ _ _ _ (by omega) h1 m1).mono ?_
  rintro e w' ⟨rfl, rfl⟩
  rw [E1.out]
  go_wp2_with fail
  with_reducible refine (szBS_any _ _ _ _ _ (by omega) (by omega) m2).mono ?_
  rintro e w' ⟨rfl, rfl⟩
  rw [E2.out]
  go_wp2
  go_ret
  exact ⟨rfl, Kept.alloc0 _ _⟩
set_option maxHeartbeats 400000 in
theorem szSl_neg (t : Slt) (v : Value) (left : Int) (w : World) (B : Nat) (h : RdSl w B v t) (h0 : left < (t.ages.length : Int) + t.used.length) (hl : 0 ≤ left) (h1 : left ≤ 1048576) :
    Calls Try.prog 44 #[v, .int .i64 left] w fun e w' => e = .returned (.int .i64 (-1)) ∧ Kept 0 0 w w' := by
  obtain ⟨hv, lv, rfl, h2, h3⟩ := h
  have m1 := h2.len
  have m2 := h3.len
  obtain ⟨A1, c1, rfl, _⟩ := h2
  obtain ⟨A2, c2, rfl, _⟩ := h3
  by_cases hd : left - t.ages.length < 0
  · have E1 := Lib.hid (szF_neg hd)
    clear hd
    go_enter Try.func44, Try.ntmps44
    go_wp2_with fail
    with_reducible refine (szIS_any _ _ _ _ _ hl h1 m1).mono ?_
    rintro e w' ⟨rfl, rfl⟩
    rw [E1.out]
    go_wp2
    go_ret
    exact ⟨rfl, Kept.alloc0 _ _⟩
  · have E1 := Lib.hid (szF_pos hd)
    have E2 : Hid (szF (left - t.ages.length) t.used.length = -1) := szF_neg (by omega)
    go_enter Try.func44, Try.ntmps44
    go_wp2_with fail
    with_reducible refine (szIS_any _ _ _ _ _ hl h1 m1).mono ?_
    rintro e w' ⟨rfl, rfl⟩
    rw [E1.out]
    go_wp2_with fail
    with_reducible refine (szBS_any _ _ _ _ _ (by omega) (by omega) m2).mono ?_
    rintro e w' ⟨rfl, rfl⟩
    rw [E2.out]
    go_wp2
    go_ret
    exact ⟨rfl, Kept.alloc0 _ _⟩

set_option maxHeartbeats 800000 in
theorem eqSl (t : Slt) (v v' : Value) (w : World) (h : RdSl w w.heap.size v t) (h' : RdSl w w.heap.size v' t) :
    Calls Try.prog 52 #[v, v'] w fun e w' => e = .returned (.bool true) ∧ Kept 0 0 w w' := by
  obtain ⟨hv, lv, rfl, r1, r2⟩ := h
  obtain ⟨hv', lv', rfl, s1, s2⟩ := h'
  obtain ⟨V, hV⟩ : ∃ V, V = (w.alloc (.cells #[hv, lv] 31)).alloc (.cells #[hv', lv'] 31) := ⟨_, rfl⟩
  have KV : Hid (Kept 0 0 w V) := by show Kept _ _ _ _; rw [hV]; exact (Kept.alloc0 _ _).alloc _
  have B0 : Hid (Blk V w.heap.size 31 #[hv, lv]) := by show Blk _ _ _ _; rw [hV]; exact (Blk.new _ _ _).alloc _
  have B1 : Hid (Blk V (w.heap.size + 1) 31 #[hv', lv']) := by
    show Blk _ _ _ _
    rw [hV]
    have := Blk.new (w.alloc (.cells #[hv, lv] 31)) 31 #[hv', lv']
    simpa using this
  have R2 := Lib.hid (r2.up KV.out)
  have S2 := Lib.hid (s2.up KV.out)
  have CE := Lib.hid (eqI t.ages _ _ V (r1.up KV.out) (s1.up KV.out))
  obtain ⟨A1, c1, rfl, _⟩ := r1
  obtain ⟨A2, c2, rfl, _⟩ := r2
  obtain ⟨A1', c1', rfl, _⟩ := s1
  obtain ⟨A2', c2', rfl, _⟩ := s2
  go_enter Try.func52, Try.ntmps52
  go_wp2_with fail
  rw [← hV]
  with_reducible refine CE.out.mono ?_
  rintro e w1 ⟨rfl, hk⟩
  have K1 := Lib.hid (KV.out.trans hk)
  have C0 := Lib.hid (B0.out.kept hk (.inl (Nat.le_refl _)))
  have C1 := Lib.hid (B1.out.kept hk (.inl (Nat.le_refl _)))
  have CE2 := Lib.hid (eqB t.used _ _ w1 (R2.out.up hk) (S2.out.up hk))
  clear hk hV CE B0 B1 R2 S2
  have a1 := C0.out.cell 1
  have b1 := C1.out.cell 1
  simp only [List.getElem?_toArray, List.getElem?_cons_succ, List.getElem?_cons_zero] at a1 b1
  go_wp2_with fail
  with_reducible refine CE2.out.mono ?_
  rintro e w2 ⟨rfl, hk⟩
  have K2 := Lib.hid (K1.out.trans hk)
  have D0 := Lib.hid (C0.out.kept hk (.inl (Nat.le_refl _)))
  have D1 := Lib.hid (C1.out.kept hk (.inl (Nat.le_refl _)))
  clear hk CE2 C0 C1 a1 b1
  go_wp2
  go_ret
  exact ⟨rfl, K2.out⟩

/-- What the marks write. -/
def marksSl (k : Int) (t : Slt) : Slt := ⟨marksI k t.ages.length, marksB (k + (t.ages.length : Int)) t.used.length⟩
def markSlN (k : Int) (t : Slt) : Int := k + (t.ages.length : Int) + (t.used.length : Int)

set_option maxHeartbeats 800000 in
theorem markSl (k : Int) (t : Slt) (v : Value) (lo hi : Nat) (w : World) (h : OwnSl w lo hi v t) (hk0 : 0 ≤ k) (hk1 : k ≤ 6000000) (hn : t.ages.length ≤ 1048576) (hn' : t.used.length ≤ 1048576) (hh : hi ≤ w.heap.size) :
    Calls Try.prog 55 #[v, .int .i64 k] w fun e w' => e = .returned (.int .i64 (markSlN k t)) ∧ OwnSl w' lo hi v (marksSl k t) ∧ Kept lo hi w w' := by
  obtain ⟨hv, lv, rfl, ⟨D1, d1, rfl, o1⟩, ⟨D2, d2, rfl, o2⟩⟩ := h
  obtain ⟨V, hV⟩ : ∃ V, V = w.alloc (.cells #[.slice D1 t.ages.length d1, .slice D2 t.used.length d2] 31) := ⟨_, rfl⟩
  have KV : Hid (Kept 0 0 w V) := by show Kept _ _ _ _; rw [hV]; exact Kept.alloc0 _ _
  have B0 : Hid (Blk V w.heap.size 31 #[.slice D1 t.ages.length d1, .slice D2 t.used.length d2]) := by show Blk _ _ _ _; rw [hV]; exact Blk.new _ _ _
  have P1 := Lib.hid (o1.kept KV.out (.inl (Nat.le_refl _)))
  have P2 := Lib.hid (o2.kept KV.out (.inl (Nat.le_refl _)))
  have r1 := o1.range
  have r2 := o2.range
  have CM := Lib.hid (markIS_own k t.ages D1 d1 lo hi V P1.out hk0 (by omega) hn)
  clear o1 o2
  go_enter Try.func55, Try.ntmps55
  go_wp2_with fail
  rw [← hV]
  with_reducible refine CM.out.mono ?_
  rintro e w1 ⟨rfl, ho, hk⟩
  have Q1 := Lib.hid ho
  have Q2 := Lib.hid (P1.out.other P2.out (by decide) hk)
  have K1 := Lib.hid ((KV.out.wide (lo' := lo) (hi' := hi) (.inl (Nat.le_refl _))).trans (hk.wide (by omega)))
  have C0 := Lib.hid (B0.out.kept hk (by omega))
  have CM2 := Lib.hid (markBS_own (k + (t.ages.length : Int)) t.used D2 d2 lo hi w1 Q2.out (by omega) (by omega) hn')
  clear ho hk hV CM B0 P1 P2 KV
  have a1 := C0.out.cell 1
  simp only [List.getElem?_toArray, List.getElem?_cons_succ, List.getElem?_cons_zero] at a1
  go_wp2_with fail
  with_reducible refine CM2.out.mono ?_
  rintro e w2 ⟨rfl, ho, hk⟩
  have S2 := Lib.hid ho
  have S1 := Lib.hid (Q2.out.other Q1.out (by decide) hk)
  have K2 := Lib.hid (K1.out.trans (hk.wide (by omega)))
  clear ho hk CM2 C0 a1 Q1 Q2 K1
  go_wp2
  go_ret
  exact ⟨rfl, ⟨_, _, rfl, ⟨D1, d1, by rw [show (marksSl k t).ages = marksI k t.ages.length from rfl, marksI_len], by rw [show (marksSl k t).ages = marksI k t.ages.length from rfl, marksI_len]; exact S1.out⟩, ⟨D2, d2, by rw [show (marksSl k t).used = marksB (k + (t.ages.length : Int)) t.used.length from rfl, marksB_len], by rw [show (marksSl k t).used = marksB (k + (t.ages.length : Int)) t.used.length from rfl, marksB_len]; exact S2.out⟩⟩, K2.out⟩

set_option maxHeartbeats 800000 in
theorem markSlB {ty3 z n3 c3 : Nat} {A3 : Option Addr} {xs3 : List Value} (k : Int) (t : Slt) (v : Value) (lo hi : Nat) (w : World) (h : OwnSl w lo hi v t) (hk0 : 0 ≤ k) (hk1 : k ≤ 6000000) (hn : t.ages.length ≤ 1048576) (hn' : t.used.length ≤ 1048576) (hh : hi ≤ w.heap.size) (h3 : OwnZ w lo hi ty3 z A3 n3 c3 xs3) (he1 : ty3 ≠ 2) (he2 : ty3 ≠ 4) :
    Calls Try.prog 55 #[v, .int .i64 k] w fun e w' => e = .returned (.int .i64 (markSlN k t)) ∧ OwnSl w' lo hi v (marksSl k t) ∧ OwnZ w' lo hi ty3 z A3 n3 c3 xs3 ∧ Kept lo hi w w' := by
  obtain ⟨hv, lv, rfl, ⟨D1, d1, rfl, o1⟩, ⟨D2, d2, rfl, o2⟩⟩ := h
  obtain ⟨V, hV⟩ : ∃ V, V = w.alloc (.cells #[.slice D1 t.ages.length d1, .slice D2 t.used.length d2] 31) := ⟨_, rfl⟩
  have KV : Hid (Kept 0 0 w V) := by show Kept _ _ _ _; rw [hV]; exact Kept.alloc0 _ _
  have B0 : Hid (Blk V w.heap.size 31 #[.slice D1 t.ages.length d1, .slice D2 t.used.length d2]) := by show Blk _ _ _ _; rw [hV]; exact Blk.new _ _ _
  have P1 := Lib.hid (o1.kept KV.out (.inl (Nat.le_refl _)))
  have P2 := Lib.hid (o2.kept KV.out (.inl (Nat.le_refl _)))
  have P3 := Lib.hid (h3.kept KV.out (.inl (Nat.le_refl _)))
  have r1 := o1.range
  have r2 := o2.range
  have CM := Lib.hid (markIS_own k t.ages D1 d1 lo hi V P1.out hk0 (by omega) hn)
  clear o1 o2
  go_enter Try.func55, Try.ntmps55
  go_wp2_with fail
  rw [← hV]
  with_reducible refine CM.out.mono ?_
  rintro e w1 ⟨rfl, ho, hk⟩
  have Q1 := Lib.hid ho
  have Q2 := Lib.hid (P1.out.other P2.out (by decide) hk)
  have Q3 := Lib.hid (P1.out.other P3.out he1.symm hk)
  have K1 := Lib.hid ((KV.out.wide (lo' := lo) (hi' := hi) (.inl (Nat.le_refl _))).trans (hk.wide (by omega)))
  have C0 := Lib.hid (B0.out.kept hk (by omega))
  have CM2 := Lib.hid (markBS_own (k + (t.ages.length : Int)) t.used D2 d2 lo hi w1 Q2.out (by omega) (by omega) hn')
  clear ho hk hV CM B0 P1 P2 KV
  have a1 := C0.out.cell 1
  simp only [List.getElem?_toArray, List.getElem?_cons_succ, List.getElem?_cons_zero] at a1
  go_wp2_with fail
  with_reducible refine CM2.out.mono ?_
  rintro e w2 ⟨rfl, ho, hk⟩
  have S2 := Lib.hid ho
  have S1 := Lib.hid (Q2.out.other Q1.out (by decide) hk)
  have S3 := Lib.hid (Q2.out.other Q3.out he2.symm hk)
  have K2 := Lib.hid (K1.out.trans (hk.wide (by omega)))
  clear ho hk CM2 C0 a1 Q1 Q2 K1
  go_wp2
  go_ret
  exact ⟨rfl, ⟨_, _, rfl, ⟨D1, d1, by rw [show (marksSl k t).ages = marksI k t.ages.length from rfl, marksI_len], by rw [show (marksSl k t).ages = marksI k t.ages.length from rfl, marksI_len]; exact S1.out⟩, ⟨D2, d2, by rw [show (marksSl k t).used = marksB (k + (t.ages.length : Int)) t.used.length from rfl, marksB_len], by rw [show (marksSl k t).used = marksB (k + (t.ages.length : Int)) t.used.length from rfl, marksB_len]; exact S2.out⟩⟩, S3.out, K2.out⟩

set_option maxHeartbeats 800000 in
theorem heldSl (k : Int) (t : Slt) (v : Value) (w : World) (B : Nat) (hB : B ≤ w.heap.size) (h : RdSl w B v (marksSl k t)) (hk0 : 0 ≤ k) (hk1 : k ≤ 6000000) (hn : t.ages.length ≤ 1048576) (hn' : t.used.length ≤ 1048576) :
    Calls Try.prog 57 #[v, .int .i64 k] w fun e w' => e = .returned (.int .i64 (markSlN k t)) ∧ Kept 0 0 w w' := by
  obtain ⟨hv, lv, rfl, h2, h3⟩ := h
  obtain ⟨V, hV⟩ : ∃ V, V = w.alloc (.cells #[hv, lv] 31) := ⟨_, rfl⟩
  have KV : Hid (Kept 0 0 w V) := by show Kept _ _ _ _; rw [hV]; exact Kept.alloc0 _ _
  have C1 := Lib.hid (heldI k t.ages.length hv V B (h2.kept hB KV.out (.inl (Nat.le_refl _))) hk0 (by omega) hn)
  have C2 := Lib.hid (heldB (k + (t.ages.length : Int)) t.used.length lv V B (h3.kept hB KV.out (.inl (Nat.le_refl _))) (by omega) (by omega) hn')
  obtain ⟨A1, c1, rfl, _⟩ := h2
  obtain ⟨A2, c2, rfl, _⟩ := h3
  have B0 : Hid (Blk V w.heap.size 31 #[.slice A1 (marksSl k t).ages.length c1, .slice A2 (marksSl k t).used.length c2]) := by show Blk _ _ _ _; rw [hV]; exact Blk.new _ _ _
  have p1 : 0 ≤ k + (t.ages.length : Int) := by omega
  have p2 : 0 ≤ k + (t.ages.length : Int) + (t.used.length : Int) := by omega
  go_enter Try.func57, Try.ntmps57
  go_wp2_with fail
  rw [← hV]
  with_reducible refine C1.out.mono ?_
  rintro e w' ⟨rfl, rfl⟩
  have a1 := B0.out.cell 1
  simp only [List.getElem?_toArray, List.getElem?_cons_succ, List.getElem?_cons_zero] at a1
  clear hV
  go_wp2_with fail
  with_reducible refine C2.out.mono ?_
  rintro e w' ⟨rfl, rfl⟩
  go_wp2
  go_ret
  exact ⟨rfl, KV.out⟩
end Go.Proofs.Ytnnbfcmbcjkpoaa
