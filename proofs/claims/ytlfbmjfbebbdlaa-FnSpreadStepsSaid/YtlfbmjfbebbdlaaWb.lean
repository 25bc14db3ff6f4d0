/- A Spread as one value: a slice of bools and a slice of int64; the helper functions of the laws over it (size, copy, compare, mark, check marks); no condition beyond what each theorem states. -/
import Derived.Test.YtlfbmjfbebbdlaaWa
namespace Go.Proofs.Ytlfbmjfbebbdlaa
open Go.RowKit Go.Sort

structure Spr where
  told : List Bool
  work : List Int
deriving DecidableEq
/-- A Spread that can be read. -/
def RdS (w : World) (B : Nat) (v : Value) (t : Spr) : Prop := ∃ hv lv, v = .agg #[hv, lv] ∧ RdB w B hv t.told ∧ RdI w B lv t.work
/-- A Spread of the call's own. -/
def OwnS (w : World) (lo hi : Nat) (v : Value) (t : Spr) : Prop := ∃ hv lv, v = .agg #[hv, lv] ∧ OwnB w lo hi hv t.told ∧ OwnI w lo hi lv t.work
section
variable {w w' : World} {B B' lo hi lo' hi' : Nat} {v : Value} {t : Spr}
theorem RdS.kept (h : RdS w B v t) (hB : B ≤ w.heap.size) (hk : Kept lo hi w w') (hr : hi ≤ lo ∨ B ≤ lo) : RdS w' B v t := by
  obtain ⟨a, b, e, h1, h2⟩ := h; exact ⟨a, b, e, h1.kept hB hk hr, h2.kept hB hk hr⟩
theorem RdS.wide (h : RdS w B v t) (hB : B ≤ B') : RdS w B' v t := by
  obtain ⟨a, b, e, h1, h2⟩ := h; exact ⟨a, b, e, h1.wide hB, h2.wide hB⟩
theorem RdS.up (h : RdS w w.heap.size v t) (hk : Kept 0 0 w w') : RdS w' w'.heap.size v t := (h.kept (Nat.le_refl _) hk (.inl (Nat.le_refl _))).wide hk.size
theorem OwnS.kept (h : OwnS w lo hi v t) (hk : Kept lo' hi' w w') (hr : hi' ≤ lo' ∨ hi ≤ lo' ∨ hi' ≤ lo) : OwnS w' lo hi v t := by
  obtain ⟨a, b, e, h1, h2⟩ := h; exact ⟨a, b, e, h1.kept hk hr, h2.kept hk hr⟩
theorem OwnS.wide (h : OwnS w lo hi v t) (hl : lo' ≤ lo) (hh : hi ≤ hi') : OwnS w lo' hi' v t := by
  obtain ⟨a, b, e, h1, h2⟩ := h; exact ⟨a, b, e, h1.wide hl hh, h2.wide hl hh⟩
theorem OwnS.rdW (h : OwnS w lo hi v t) (hh : hi ≤ w.heap.size) : RdS w w.heap.size v t := by
  obtain ⟨a, b, e, h1, h2⟩ := h; exact ⟨a, b, e, h1.rdW hh, h2.rdW hh⟩
theorem OwnS.rd (h : OwnS w lo hi v t) : RdS w hi v t := by
  obtain ⟨a, b, e, h1, h2⟩ := h; exact ⟨a, b, e, h1.rd, h2.rd⟩
theorem OwnS.nil (w : World) (lo hi : Nat) : OwnS w lo hi (.agg #[.slice none 0 0, .slice none 0 0]) ⟨[], []⟩ := ⟨_, _, rfl, OwnB.nil _ _ _, OwnI.nil _ _ _⟩
end

set_option maxHeartbeats 800000 in
theorem toS (t : Spr) (v : Value) (w : World) (h : RdS w w.heap.size v t) (hn : t.told.length ≤ 1048576) (hn' : t.work.length ≤ 1048576) :
    Calls Try.prog 23 #[v] w fun e w' => ∃ u, e = .returned u ∧ OwnS w' w.heap.size w'.heap.size u t ∧ Kept 0 0 w w' := by
  obtain ⟨hv, lv, rfl, h1, h2⟩ := h
  obtain ⟨A1, c1, e1, s1⟩ := h1
  obtain ⟨A2, c2, e2, s2⟩ := h2
  subst e1 e2
  obtain ⟨V, hV⟩ : ∃ V, V = ((w.alloc (.cells #[.slice A1 t.told.length c1, .slice A2 t.work.length c2] 43)).alloc (.cells #[.slice none 0 0, .slice none 0 0] 31)).alloc (.cells #[.slice none 0 0, .slice none 0 0] 31) := ⟨_, rfl⟩
  have KV : Hid (Kept 0 0 w V) := by show Kept _ _ _ _; rw [hV]; exact ((Kept.alloc0 _ _).alloc _).alloc _
  have B0 : Hid (Blk V w.heap.size 43 #[.slice A1 t.told.length c1, .slice A2 t.work.length c2]) := by show Blk _ _ _ _; rw [hV]; exact ((Blk.new _ _ _).alloc _).alloc _
  have B1 : Hid (Blk V (w.heap.size + 1) 31 #[.slice none 0 0, .slice none 0 0]) := by
    show Blk _ _ _ _
    rw [hV]
    have := Blk.new (w.alloc (.cells #[.slice A1 t.told.length c1, .slice A2 t.work.length c2] 43)) 31 #[.slice none 0 0, .slice none 0 0]
    simp only [World.size_alloc] at this
    exact this.alloc _
  have B2 : Hid (Blk V (w.heap.size + 2) 31 #[.slice none 0 0, .slice none 0 0]) := by
    show Blk _ _ _ _
    rw [hV]
    have := Blk.new ((w.alloc (.cells #[.slice A1 t.told.length c1, .slice A2 t.work.length c2] 43)).alloc (.cells #[.slice none 0 0, .slice none 0 0] 31)) 31 #[.slice none 0 0, .slice none 0 0]
    simpa using this
  have CT := Lib.hid (toB t.told (.slice A1 t.told.length c1) V (RdB.up ⟨A1, c1, rfl, s1⟩ KV.out) hn)
  have S2 : Hid (RdI w w.heap.size (.slice A2 t.work.length c2) t.work) := ⟨A2, c2, rfl, s2⟩
  clear s1 s2
  have zV : V.heap.size = w.heap.size + 3 := by rw [hV]; simp
  have z1 : w.heap.size + 3 ≤ V.heap.size := by omega
  have z0 : w.heap.size ≤ V.heap.size := by omega
  clear zV
  go_enter Try.func23, Try.ntmps23
  go_wp2_with fail
  rw [← hV]
  with_reducible refine CT.out.mono ?_
  rintro e w1 ⟨u1, rfl, ho, hk⟩
  obtain ⟨D1, d1, rfl, o1⟩ := ho
  have O1 := Lib.hid o1
  have K1 := Lib.hid hk
  have y1 := hk.size
  have C0 := Lib.hid (B0.out.kept hk (.inl (Nat.le_refl _)))
  have C1 := Lib.hid (B1.out.kept hk (.inl (Nat.le_refl _)))
  have C2 := Lib.hid (B2.out.kept hk (.inl (Nat.le_refl _)))
  clear o1 hk hV CT B0 B1 B2
  obtain ⟨V2, hV2⟩ : ∃ V2, V2 = w1.setCell ⟨w.heap.size + 2, 0, none⟩ (.slice D1 t.told.length d1) := ⟨_, rfl⟩
  have KV2 : Hid (Kept (w.heap.size + 2) (w.heap.size + 3) w1 V2) := by show Kept _ _ _ _; rw [hV2]; exact (Kept.refl (w.heap.size + 2) (w.heap.size + 3) w1).setCell (.inr ⟨Nat.le_refl _, by show w.heap.size + 2 < _; omega⟩) _
  have E0 := Lib.hid (C0.out.kept KV2.out (.inr (.inl (by omega))))
  have E1 := Lib.hid (C1.out.kept KV2.out (.inr (.inl (by omega))))
  have E2 : Hid (Blk V2 (w.heap.size + 2) 31 #[.slice D1 t.told.length d1, .slice none 0 0]) := by show Blk _ _ _ _; rw [hV2]; exact C2.out.set_ 0 _
  have O2 := Lib.hid (O1.out.kept KV2.out (.inr (.inr (by omega))))
  have K2 := Lib.hid ((KV.out.trans K1.out).trans2 KV2.out (.inr (by omega)))
  have zz : V2.heap.size = w1.heap.size := by rw [hV2]; simp
  have y2 : w1.heap.size ≤ V2.heap.size := by omega
  have y2' : V2.heap.size ≤ w1.heap.size := by omega
  clear zz
  have CT := Lib.hid (toI t.work _ V2 (S2.out.up K2.out) hn')
  have c00 := C0.out.cell 1
  have c20 := C2.out.cell 0
  have f20 := C2.out.frozen 0
  go_wp2_with fail
  rw [← hV2]
  clear c00 c20 f20
  with_reducible refine CT.out.mono ?_
  rintro e w2 ⟨u2, rfl, ho, hk⟩
  obtain ⟨D2, d2, rfl, o2⟩ := ho
  have P2 := Lib.hid o2
  have P1 := Lib.hid (O2.out.kept hk (.inl (Nat.le_refl _)))
  have K3 := Lib.hid (K2.out.trans hk)
  have y3 := hk.size
  have G0 := Lib.hid (E0.out.kept hk (.inl (Nat.le_refl _)))
  have G1 := Lib.hid (E1.out.kept hk (.inl (Nat.le_refl _)))
  have G2 := Lib.hid (E2.out.kept hk (.inl (Nat.le_refl _)))
  clear o2 hk hV2 CT E0 E1 E2 C0 C1 C2 KV2 O2 K2 K1 KV O1 S2
  have b10 := G1.out.cell 0
  have b11 := G1.out.cell 1
  have b20 := G2.out.cell 0
  have b21 := G2.out.cell 1
  have f10 := G1.out.frozen 0
  have f11 := G1.out.frozen 1
  have f21 := G2.out.frozen 1
  simp only [List.getElem?_toArray, List.getElem?_cons_succ, List.getElem?_cons_zero] at b10 b11 b20 b21
  obtain ⟨F, hF⟩ : ∃ F, F = (((w2.setCell ⟨w.heap.size + 1 + 1, 1, none⟩ (.slice D2 t.work.length d2)).setCell ⟨w.heap.size + 1, 0, none⟩ (.slice D1 t.told.length d1)).setCell ⟨w.heap.size + 1, 1, none⟩ (.slice D2 t.work.length d2)) := ⟨_, rfl⟩
  have KF : Hid (Kept (w.heap.size + 1) (w.heap.size + 3) w2 F) := by
    show Kept _ _ _ _
    rw [hF]
    refine (((Kept.refl (w.heap.size + 1) (w.heap.size + 3) w2).setCell (.inr ⟨?_, ?_⟩) _).setCell (.inr ⟨?_, ?_⟩) _).setCell (.inr ⟨?_, ?_⟩) _ <;> (simp only; omega)
  have BF : Hid (Blk F (w.heap.size + 1) 31 #[.slice D1 t.told.length d1, .slice D2 t.work.length d2]) := by
    show Blk _ _ _ _
    rw [hF]
    exact ((G1.out.far (by simp only; omega) _).set_ 0 _).set_ 1 _
  have F0 : F.cell? ⟨w.heap.size + 1, 0, none⟩ = some (.slice D1 t.told.length d1) := BF.out.cell 0
  have F1 : F.cell? ⟨w.heap.size + 1, 1, none⟩ = some (.slice D2 t.work.length d2) := BF.out.cell 1
  have F2 : True := trivial
  have HF := Lib.hid hF
  have FF := Lib.hid (And.intro F0 (And.intro F1 F2))
  clear hF F0 F1 F2
  go_wp2_with fail
  rw [← HF.out]
  obtain ⟨F0, F1, F2⟩ := FF.out
  have q1 := KF.out.size
  refine bodyPost_ret (v := .agg #[.slice D1 t.told.length d1, .slice D2 t.work.length d2]) (by simp [results, Try.results23, go_sem, F0, F1]) rfl ⟨_, rfl, ⟨_, _, rfl, ⟨D1, d1, rfl, ?_⟩, ⟨D2, d2, rfl, ?_⟩⟩, ?_⟩
  · exact (P1.out.kept KF.out (.inr (.inr (by omega)))).wide z0 (by omega)
  · exact (P2.out.kept KF.out (.inr (.inr (by omega)))).wide (by omega) q1
  · exact K3.out.trans2 KF.out (.inr (by omega))

set_option maxHeartbeats 400000 in
theorem szS_pos (t : Spr) (v : Value) (left : Int) (w : World) (B : Nat) (h : RdS w B v t) (h0 : (t.told.length : Int) + t.work.length ≤ left) (h1 : left ≤ 1048576) :
    Calls Try.prog 21 #[v, .int .i64 left] w fun e w' => e = .returned (.int .i64 (left - t.told.length - t.work.length)) ∧ Kept 0 0 w w' := by
  obtain ⟨hv, lv, rfl, h2, h3⟩ := h
  have m1 := h2.len
  have m2 := h3.len
  obtain ⟨A1, c1, rfl, _⟩ := h2
  obtain ⟨A2, c2, rfl, _⟩ := h3
  have E1 : Hid (szF left t.told.length = left - t.told.length) := szF_pos (by omega)
  have E2 : Hid (szF (left - t.told.length) t.work.length = left - t.told.length - t.work.length) := szF_pos (by omega)
  go_enter Try.func21, Try.ntmps21
  go_wp2_with fail
  with_reducible refine (szBS_any _ _ _ _ _ (by omega) h1 m1).mono ?_
  rintro e w' ⟨rfl, rfl⟩
  rw [E1.out]
  go_wp2_with fail
  with_reducible refine (szIS_any _ _ _ _ _ (by omega) (by omega) m2).mono ?_
  rintro e w' ⟨rfl, rfl⟩
  rw [E2.out]
  go_wp2
  go_ret
  exact ⟨rfl, Kept.alloc0 _ _⟩
set_option maxHeartbeats 400000 in
theorem szS_neg (t : Spr) (v : Value) (left : Int) (w : World) (B : Nat) (h : RdS w B v t) (h0 : left < (t.told.length : Int) + t.work.length) (hl : 0 ≤ left) (h1 : left ≤ 1048576) :
    Calls Try.prog 21 #[v, .int .i64 left] w fun e w' => e = .returned (.int .i64 (-1)) ∧ Kept 0 0 w w' := by
  obtain ⟨hv, lv, rfl, h2, h3⟩ := h
  have m1 := h2.len
  have m2 := h3.len
  obtain ⟨A1, c1, rfl, _⟩ := h2
  obtain ⟨A2, c2, rfl, _⟩ := h3
  by_cases hd : left - t.told.length < 0
  · have E1 := Lib.hid (szF_neg hd)
    clear hd
    go_enter Try.func21, Try.ntmps21
    go_wp2_with fail
    with_reducible refine (szBS_any _ _ _ _ _ hl h1 m1).mono ?_
    rintro e w' ⟨rfl, rfl⟩
    rw [E1.out]
    go_wp2
    go_ret
    exact ⟨rfl, Kept.alloc0 _ _⟩
  · have E1 := Lib.hid (szF_pos hd)
    have E2 : Hid (szF (left - t.told.length) t.work.length = -1) := szF_neg (by omega)
    go_enter Try.func21, Try.ntmps21
    go_wp2_with fail
    with_reducible refine (szBS_any _ _ _ _ _ hl h1 m1).mono ?_
    rintro e w' ⟨rfl, rfl⟩
    rw [E1.out]
    go_wp2_with fail
    with_reducible refine (szIS_any _ _ _ _ _ (by omega) (by omega) m2).mono ?_
    rintro e w' ⟨rfl, rfl⟩
    rw [E2.out]
    go_wp2
    go_ret
    exact ⟨rfl, Kept.alloc0 _ _⟩

set_option maxHeartbeats 800000 in
theorem eqS (t : Spr) (v v' : Value) (w : World) (h : RdS w w.heap.size v t) (h' : RdS w w.heap.size v' t) :
    Calls Try.prog 26 #[v, v'] w fun e w' => e = .returned (.bool true) ∧ Kept 0 0 w w' := by
  obtain ⟨hv, lv, rfl, r1, r2⟩ := h
  obtain ⟨hv', lv', rfl, s1, s2⟩ := h'
  obtain ⟨V, hV⟩ : ∃ V, V = (w.alloc (.cells #[hv, lv] 31)).alloc (.cells #[hv', lv'] 31) := ⟨_, rfl⟩
  have KV : Hid (Kept 0 0 w V) := by show Kept _ _ _ _; rw [hV]; exact (Kept.alloc0 _ _).alloc _
  have B0 : Hid (Blk V w.heap.size 31 #[hv, lv]) := by show Blk _ _ _ _; rw [hV]; exact (Blk.new _ _ _).alloc _
  have B1 : Hid (Blk V (w.heap.size + 1) 31 #[hv', lv']) := by
    show Blk _ _ _ _
    rw [hV]
    have := Blk.new (w.alloc (.cells #[hv, lv] 31)) 31 #[hv', lv']
    simpa using this
  have R2 := Lib.hid (r2.up KV.out)
  have S2 := Lib.hid (s2.up KV.out)
  have CE := Lib.hid (eqB t.told _ _ V (r1.up KV.out) (s1.up KV.out))
  obtain ⟨A1, c1, rfl, _⟩ := r1
  obtain ⟨A2, c2, rfl, _⟩ := r2
  obtain ⟨A1', c1', rfl, _⟩ := s1
  obtain ⟨A2', c2', rfl, _⟩ := s2
  go_enter Try.func26, Try.ntmps26
  go_wp2_with fail
  rw [← hV]
  with_reducible refine CE.out.mono ?_
  rintro e w1 ⟨rfl, hk⟩
  have K1 := Lib.hid (KV.out.trans hk)
  have C0 := Lib.hid (B0.out.kept hk (.inl (Nat.le_refl _)))
  have C1 := Lib.hid (B1.out.kept hk (.inl (Nat.le_refl _)))
  have CE2 := Lib.hid (eqI t.work _ _ w1 (R2.out.up hk) (S2.out.up hk))
  clear hk hV CE B0 B1 R2 S2
  have a1 := C0.out.cell 1
  have b1 := C1.out.cell 1
  simp only [List.getElem?_toArray, List.getElem?_cons_succ, List.getElem?_cons_zero] at a1 b1
  go_wp2_with fail
  with_reducible refine CE2.out.mono ?_
  rintro e w2 ⟨rfl, hk⟩
  have K2 := Lib.hid (K1.out.trans hk)
  have D0 := Lib.hid (C0.out.kept hk (.inl (Nat.le_refl _)))
  have D1 := Lib.hid (C1.out.kept hk (.inl (Nat.le_refl _)))
  clear hk CE2 C0 C1 a1 b1
  go_wp2
  go_ret
  exact ⟨rfl, K2.out⟩

/-- A row stays while a row of another type is written. -/
theorem OwnZ.other {w w' : World} {lo hi e size n c lo' hi' e' size' n' c' : Nat} {A A' : Option Addr} {xs xs' : List Value} (h : OwnZ w lo hi e size A n c xs) (h' : OwnZ w lo' hi' e' size' A' n' c' xs') (hne : e ≠ e') (hk : Kept (aLo A) (aHi A) w w') : OwnZ w' lo' hi' e' size' A' n' c' xs' := by
  refine ⟨⟨h'.1.1, ?_⟩, h'.2⟩
  rcases h'.1.2 with hn | ⟨g, cap, cur, hv, hb, hg, rest⟩
  · exact .inl hn
  · refine .inr ⟨g, cap, cur, hv, hb, ?_, rest⟩
    rw [hk.block g (Array.getElem?_eq_some_iff.1 hg).1 ?_]
    · exact hg
    rcases h.1.2 with ⟨hv1, _⟩ | ⟨g1, cap1, cur1, hv1, _, hg1, _⟩
    · injection hv1 with h1
      subst h1
      exact .inr (Nat.zero_le _)
    · injection hv1 with h1
      subst h1
      have : g ≠ g1 := by
        rintro rfl
        rw [hg] at hg1
        injection hg1 with hg1
        injection hg1 with _ ht
        exact hne ht.symm
      show g < g1 ∨ g1 + 1 ≤ g
      omega
/-- What the marks write. -/
def marksS (k : Int) (t : Spr) : Spr := ⟨marksB k t.told.length, marksI (k + (t.told.length : Int)) t.work.length⟩
def markSN (k : Int) (t : Spr) : Int := k + (t.told.length : Int) + (t.work.length : Int)

set_option maxHeartbeats 800000 in
theorem markS (k : Int) (t : Spr) (v : Value) (lo hi : Nat) (w : World) (h : OwnS w lo hi v t) (hk0 : 0 ≤ k) (hk1 : k ≤ 6000000) (hn : t.told.length ≤ 1048576) (hn' : t.work.length ≤ 1048576) (hh : hi ≤ w.heap.size) :
    Calls Try.prog 29 #[v, .int .i64 k] w fun e w' => e = .returned (.int .i64 (markSN k t)) ∧ OwnS w' lo hi v (marksS k t) ∧ Kept lo hi w w' := by
  obtain ⟨hv, lv, rfl, ⟨D1, d1, rfl, o1⟩, ⟨D2, d2, rfl, o2⟩⟩ := h
  obtain ⟨V, hV⟩ : ∃ V, V = w.alloc (.cells #[.slice D1 t.told.length d1, .slice D2 t.work.length d2] 31) := ⟨_, rfl⟩
  have KV : Hid (Kept 0 0 w V) := by show Kept _ _ _ _; rw [hV]; exact Kept.alloc0 _ _
  have B0 : Hid (Blk V w.heap.size 31 #[.slice D1 t.told.length d1, .slice D2 t.work.length d2]) := by show Blk _ _ _ _; rw [hV]; exact Blk.new _ _ _
  have P1 := Lib.hid (o1.kept KV.out (.inl (Nat.le_refl _)))
  have P2 := Lib.hid (o2.kept KV.out (.inl (Nat.le_refl _)))
  have r1 := o1.range
  have r2 := o2.range
  have CM := Lib.hid (markBS_own k t.told D1 d1 lo hi V P1.out hk0 (by omega) hn)
  clear o1 o2
  go_enter Try.func29, Try.ntmps29
  go_wp2_with fail
  rw [← hV]
  with_reducible refine CM.out.mono ?_
  rintro e w1 ⟨rfl, ho, hk⟩
  have Q1 := Lib.hid ho
  have Q2 := Lib.hid (P1.out.other P2.out (by decide) hk)
  have K1 := Lib.hid ((KV.out.wide (lo' := lo) (hi' := hi) (.inl (Nat.le_refl _))).trans (hk.wide (by omega)))
  have C0 := Lib.hid (B0.out.kept hk (by omega))
  have CM2 := Lib.hid (markIS_own (k + (t.told.length : Int)) t.work D2 d2 lo hi w1 Q2.out (by omega) (by omega) hn')
  clear ho hk hV CM B0 P1 P2 KV
  have a1 := C0.out.cell 1
  simp only [List.getElem?_toArray, List.getElem?_cons_succ, List.getElem?_cons_zero] at a1
  go_wp2_with fail
  with_reducible refine CM2.out.mono ?_
  rintro e w2 ⟨rfl, ho, hk⟩
  have S2 := Lib.hid ho
  have S1 := Lib.hid (Q2.out.other Q1.out (by decide) hk)
  have K2 := Lib.hid (K1.out.trans (hk.wide (by omega)))
  clear ho hk CM2 C0 a1 Q1 Q2 K1
  go_wp2
  go_ret
  exact ⟨rfl, ⟨_, _, rfl, ⟨D1, d1, by rw [show (marksS k t).told = marksB k t.told.length from rfl, marksB_len], by rw [show (marksS k t).told = marksB k t.told.length from rfl, marksB_len]; exact S1.out⟩, ⟨D2, d2, by rw [show (marksS k t).work = marksI (k + (t.told.length : Int)) t.work.length from rfl, marksI_len], by rw [show (marksS k t).work = marksI (k + (t.told.length : Int)) t.work.length from rfl, marksI_len]; exact S2.out⟩⟩, K2.out⟩

set_option maxHeartbeats 800000 in
theorem heldS (k : Int) (t : Spr) (v : Value) (w : World) (B : Nat) (hB : B ≤ w.heap.size) (h : RdS w B v (marksS k t)) (hk0 : 0 ≤ k) (hk1 : k ≤ 6000000) (hn : t.told.length ≤ 1048576) (hn' : t.work.length ≤ 1048576) :
    Calls Try.prog 30 #[v, .int .i64 k] w fun e w' => e = .returned (.int .i64 (markSN k t)) ∧ Kept 0 0 w w' := by
  obtain ⟨hv, lv, rfl, h2, h3⟩ := h
  obtain ⟨V, hV⟩ : ∃ V, V = w.alloc (.cells #[hv, lv] 31) := ⟨_, rfl⟩
  have KV : Hid (Kept 0 0 w V) := by show Kept _ _ _ _; rw [hV]; exact Kept.alloc0 _ _
  have C1 := Lib.hid (heldB k t.told.length hv V B (h2.kept hB KV.out (.inl (Nat.le_refl _))) hk0 (by omega) hn)
  have C2 := Lib.hid (heldI (k + (t.told.length : Int)) t.work.length lv V B (h3.kept hB KV.out (.inl (Nat.le_refl _))) (by omega) (by omega) hn')
  obtain ⟨A1, c1, rfl, _⟩ := h2
  obtain ⟨A2, c2, rfl, _⟩ := h3
  have B0 : Hid (Blk V w.heap.size 31 #[.slice A1 (marksS k t).told.length c1, .slice A2 (marksS k t).work.length c2]) := by show Blk _ _ _ _; rw [hV]; exact Blk.new _ _ _
  have p1 : 0 ≤ k + (t.told.length : Int) := by omega
  have p2 : 0 ≤ k + (t.told.length : Int) + (t.work.length : Int) := by omega
  go_enter Try.func30, Try.ntmps30
  go_wp2_with fail
  rw [← hV]
  with_reducible refine C1.out.mono ?_
  rintro e w' ⟨rfl, rfl⟩
  have a1 := B0.out.cell 1
  simp only [List.getElem?_toArray, List.getElem?_cons_succ, List.getElem?_cons_zero] at a1
  clear hV
  go_wp2_with fail
  with_reducible refine C2.out.mono ?_
  rintro e w' ⟨rfl, rfl⟩
  go_wp2
  go_ret
  exact ⟨rfl, KV.out⟩
end Go.Proofs.Ytlfbmjfbebbdlaa
