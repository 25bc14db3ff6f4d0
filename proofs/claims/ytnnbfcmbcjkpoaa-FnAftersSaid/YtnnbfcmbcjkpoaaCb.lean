/- Afters as one value: slots and a slice of functions that are to be started; the laws' helpers over it (copy, size, compare, mark, check marks); no condition beyond what each theorem states. -/
import Derived.Test.YtnnbfcmbcjkpoaaCa
import Derived.Test.YtnnbfcmbcjkpoaaBk
namespace Go.Proofs.Ytnnbfcmbcjkpoaa
open Go.RowKit Go.Sort

structure Afs where
  slots : Slt
  list : List Aft
deriving DecidableEq
/-- Afters that can be read. -/
def RdAs (w : World) (B : Nat) (v : Value) (t : Afs) : Prop := ∃ hv lv sv, v = .agg #[hv, lv, sv] ∧ RdI w B hv t.slots.ages ∧ RdB w B lv t.slots.used ∧ RdAf w B sv t.list
/-- Afters of the call's own. -/
def OwnAs (w : World) (lo hi : Nat) (v : Value) (t : Afs) : Prop := ∃ hv lv sv, v = .agg #[hv, lv, sv] ∧ OwnI w lo hi hv t.slots.ages ∧ OwnB w lo hi lv t.slots.used ∧ OwnAf w lo hi sv t.list
section
variable {w w' : World} {B B' lo hi lo' hi' : Nat} {v : Value} {t : Afs}
theorem RdAs.kept (h : RdAs w B v t) (hB : B ≤ w.heap.size) (hk : Kept lo hi w w') (hr : hi ≤ lo ∨ B ≤ lo) : RdAs w' B v t := by
  obtain ⟨a, b, c, e, h1, h2, h3⟩ := h; exact ⟨a, b, c, e, h1.kept hB hk hr, h2.kept hB hk hr, h3.kept hB hk hr⟩
theorem RdAs.wide (h : RdAs w B v t) (hB : B ≤ B') : RdAs w B' v t := by
  obtain ⟨a, b, c, e, h1, h2, h3⟩ := h; exact ⟨a, b, c, e, h1.wide hB, h2.wide hB, h3.wide hB⟩
theorem RdAs.up (h : RdAs w w.heap.size v t) (hk : Kept 0 0 w w') : RdAs w' w'.heap.size v t := (h.kept (Nat.le_refl _) hk (.inl (Nat.le_refl _))).wide hk.size
theorem OwnAs.kept (h : OwnAs w lo hi v t) (hk : Kept lo' hi' w w') (hr : hi' ≤ lo' ∨ hi ≤ lo' ∨ hi' ≤ lo) : OwnAs w' lo hi v t := by
  obtain ⟨a, b, c, e, h1, h2, h3⟩ := h; exact ⟨a, b, c, e, h1.kept hk hr, h2.kept hk hr, h3.kept hk hr⟩
theorem OwnAs.wide (h : OwnAs w lo hi v t) (hl : lo' ≤ lo) (hh : hi ≤ hi') : OwnAs w lo' hi' v t := by
  obtain ⟨a, b, c, e, h1, h2, h3⟩ := h; exact ⟨a, b, c, e, h1.wide hl hh, h2.wide hl hh, h3.wide hl hh⟩
theorem OwnAs.rdW (h : OwnAs w lo hi v t) (hh : hi ≤ w.heap.size) : RdAs w w.heap.size v t := by
  obtain ⟨a, b, c, e, h1, h2, h3⟩ := h; exact ⟨a, b, c, e, h1.rdW hh, h2.rdW hh, h3.rdW hh⟩
theorem OwnAs.rd (h : OwnAs w lo hi v t) : RdAs w hi v t := by
  obtain ⟨a, b, c, e, h1, h2, h3⟩ := h; exact ⟨a, b, c, e, h1.rd, h2.rd, h3.rd⟩
theorem OwnAs.nil (w : World) (lo hi : Nat) : OwnAs w lo hi (.agg #[.slice none 0 0, .slice none 0 0, .slice none 0 0]) ⟨⟨[], []⟩, []⟩ := ⟨_, _, _, rfl, OwnI.nil _ _ _, OwnB.nil _ _ _, OwnAf.nil _ _ _⟩
/-- The slots among them. -/
theorem RdAs.sl {hv lv sv : Value} (h : RdAs w B (.agg #[hv, lv, sv]) t) : RdSl w B (.agg #[hv, lv]) t.slots ∧ RdAf w B sv t.list := by
  obtain ⟨a, b, c, e, h1, h2, h3⟩ := h
  injection e with e
  injection e with e
  injection e with ea e
  injection e with eb e
  injection e with ec _
  subst ea eb ec
  exact ⟨⟨_, _, rfl, h1, h2⟩, h3⟩
end

set_option maxHeartbeats 1600000 in
theorem toAs (t : Afs) (v : Value) (w : World) (h : RdAs w w.heap.size v t) (hn : t.slots.ages.length ≤ 1048576) (hn' : t.slots.used.length ≤ 1048576) (hn'' : t.list.length ≤ 1048576) :
    Calls Try.prog 22 #[v] w fun e w' => ∃ u, e = .returned u ∧ OwnAs w' w.heap.size w'.heap.size u t ∧ Kept 0 0 w w' := by
  obtain ⟨hv, lv, sv, rfl, h1, h2, h3⟩ := h
  have SL : RdSl w w.heap.size (.agg #[hv, lv]) t.slots := ⟨_, _, rfl, h1, h2⟩
  obtain ⟨A1, c1, e1, s1⟩ := h1
  obtain ⟨A2, c2, e2, s2⟩ := h2
  obtain ⟨A3, c3, e3, s3⟩ := h3
  subst e1 e2 e3
  have S3 : Hid (RdAf w w.heap.size (.slice A3 t.list.length c3) t.list) := ⟨A3, c3, rfl, s3⟩
  have HSL := Lib.hid SL
  clear s1 s2 s3 SL
  obtain ⟨W, hW⟩ : ∃ W, W = ((w.alloc (.cells #[.slice A1 t.slots.ages.length c1, .slice A2 t.slots.used.length c2, .slice A3 t.list.length c3] 53)).alloc (.cells #[.slice none 0 0, .slice none 0 0, .slice none 0 0] 34)).alloc (.cells #[.slice none 0 0, .slice none 0 0, .slice none 0 0] 34) := ⟨_, rfl⟩
  have KW : Hid (Kept 0 0 w W) := by show Kept _ _ _ _; rw [hW]; exact ((Kept.alloc0 _ _).alloc _).alloc _
  have B0 : Hid (Blk W w.heap.size 53 #[.slice A1 t.slots.ages.length c1, .slice A2 t.slots.used.length c2, .slice A3 t.list.length c3]) := by show Blk _ _ _ _; rw [hW]; exact ((Blk.new _ _ _).alloc _).alloc _
  have B1 : Hid (Blk W (w.heap.size + 1) 34 #[.slice none 0 0, .slice none 0 0, .slice none 0 0]) := by
    show Blk _ _ _ _
    rw [hW]
    have := Blk.new (w.alloc (.cells #[.slice A1 t.slots.ages.length c1, .slice A2 t.slots.used.length c2, .slice A3 t.list.length c3] 53)) 34 #[.slice none 0 0, .slice none 0 0, .slice none 0 0]
    simp only [World.size_alloc] at this
    exact this.alloc _
  have B2 : Hid (Blk W (w.heap.size + 2) 34 #[.slice none 0 0, .slice none 0 0, .slice none 0 0]) := by
    show Blk _ _ _ _
    rw [hW]
    have := Blk.new ((w.alloc (.cells #[.slice A1 t.slots.ages.length c1, .slice A2 t.slots.used.length c2, .slice A3 t.list.length c3] 53)).alloc (.cells #[.slice none 0 0, .slice none 0 0, .slice none 0 0] 34)) 34 #[.slice none 0 0, .slice none 0 0, .slice none 0 0]
    simpa using this
  have zW : w.heap.size + 3 ≤ W.heap.size := by rw [hW]; simp
  have HW := Lib.hid hW
  clear hW
  have CT := Lib.hid (toSl t.slots _ W (HSL.out.up KW.out) hn hn')
  have a0 : W.cell? ⟨w.heap.size, 0, none⟩ = some (.slice A1 t.slots.ages.length c1) := B0.out.cell 0
  have a1 : W.cell? ⟨w.heap.size, 1, none⟩ = some (.slice A2 t.slots.used.length c2) := B0.out.cell 1
  go_enter Try.func22, Try.ntmps22
  go_upto_region 2 with fail
  rw [← HW.out]
  go_wp2_with fail
  with_reducible refine CT.out.mono ?_
  rintro e w1 ⟨_, rfl, ⟨_, _, rfl, ⟨D1, d1, rfl, o1⟩, ⟨D2, d2, rfl, o2⟩⟩, hk⟩
  have O1 := Lib.hid o1
  have O2 := Lib.hid o2
  have K1 := Lib.hid (KW.out.trans hk)
  have y1 := hk.size
  have C0 := Lib.hid (B0.out.kept hk (.inl (Nat.le_refl _)))
  have C1 := Lib.hid (B1.out.kept hk (.inl (Nat.le_refl _)))
  have C2 := Lib.hid (B2.out.kept hk (.inl (Nat.le_refl _)))
  clear o1 o2 hk CT B0 B1 B2 a0 a1 HW KW
  obtain ⟨V, hV⟩ : ∃ V, V = (w1.setCell ⟨w.heap.size + 1 + 1, 0, none⟩ (.slice D1 t.slots.ages.length d1)).setCell ⟨w.heap.size + 1 + 1, 1, none⟩ (.slice D2 t.slots.used.length d2) := ⟨_, rfl⟩
  have KV : Hid (Kept (w.heap.size + 2) (w.heap.size + 3) w1 V) := by
    show Kept _ _ _ _
    rw [hV]
    exact ((Kept.refl (w.heap.size + 2) (w.heap.size + 3) w1).setCell (.inr ⟨Nat.le_refl _, by show w.heap.size + 2 < _; omega⟩) _).setCell (.inr ⟨Nat.le_refl _, by show w.heap.size + 2 < _; omega⟩) _
  have E0 := Lib.hid (C0.out.kept KV.out (.inr (.inl (by omega))))
  have E1 := Lib.hid (C1.out.kept KV.out (.inr (.inl (by omega))))
  have E2 : Hid (Blk V (w.heap.size + 2) 34 #[.slice D1 t.slots.ages.length d1, .slice D2 t.slots.used.length d2, .slice none 0 0]) := by show Blk _ _ _ _; rw [hV]; exact (C2.out.set_ 0 _).set_ 1 _
  have P1 := Lib.hid (O1.out.kept KV.out (.inr (.inr (by omega))))
  have P2 := Lib.hid (O2.out.kept KV.out (.inr (.inr (by omega))))
  have K2 := Lib.hid (K1.out.trans2 KV.out (.inr (by omega)))
  have y2 := KV.out.size
  have HV := Lib.hid hV
  have c20 := C2.out.cell 0
  have c21 := C2.out.cell 1
  have f20 := C2.out.frozen 0
  have f21 := C2.out.frozen 1
  simp only [List.getElem?_toArray, List.getElem?_cons_succ, List.getElem?_cons_zero] at c20 c21
  clear hV
  go_upto_region 3 with fail
  rw [← HV.out]
  clear c20 c21 f20 f21 HV C0 C1 C2 O1 O2 K1 KV
  have CT := Lib.hid (toAf t.list _ V (S3.out.up K2.out) hn'')
  have a2 : V.cell? ⟨w.heap.size, 2, none⟩ = some (.slice A3 t.list.length c3) := E0.out.cell 2
  go_wp2_with fail
  clear a2
  with_reducible refine CT.out.mono ?_
  rintro e w2 ⟨u2, rfl, ho, hk⟩
  obtain ⟨D3, d3, rfl, o3⟩ := ho
  have Q3 := Lib.hid o3
  have Q1 := Lib.hid (P1.out.kept hk (.inl (Nat.le_refl _)))
  have Q2 := Lib.hid (P2.out.kept hk (.inl (Nat.le_refl _)))
  have K3 := Lib.hid (K2.out.trans hk)
  have y3 := hk.size
  have G1 := Lib.hid (E1.out.kept hk (.inl (Nat.le_refl _)))
  have G2 := Lib.hid (E2.out.kept hk (.inl (Nat.le_refl _)))
  clear o3 hk CT E0 E1 E2 P1 P2 K2
  obtain ⟨U, hU⟩ : ∃ U, U = w2.setCell ⟨w.heap.size + 1 + 1, 2, none⟩ (.slice D3 t.list.length d3) := ⟨_, rfl⟩
  have KU : Hid (Kept (w.heap.size + 2) (w.heap.size + 3) w2 U) := by
    show Kept _ _ _ _
    rw [hU]
    exact (Kept.refl (w.heap.size + 2) (w.heap.size + 3) w2).setCell (.inr ⟨Nat.le_refl _, by show w.heap.size + 2 < _; omega⟩) _
  have H1 := Lib.hid (G1.out.kept KU.out (.inr (.inl (by omega))))
  have H2 : Hid (Blk U (w.heap.size + 2) 34 #[.slice D1 t.slots.ages.length d1, .slice D2 t.slots.used.length d2, .slice D3 t.list.length d3]) := by show Blk _ _ _ _; rw [hU]; exact G2.out.set_ 2 _
  have R1 := Lib.hid (Q1.out.kept KU.out (.inr (.inr (by omega))))
  have R2 := Lib.hid (Q2.out.kept KU.out (.inr (.inr (by omega))))
  have R3 := Lib.hid (Q3.out.kept KU.out (.inr (.inr (by omega))))
  have K4 := Lib.hid (K3.out.trans2 KU.out (.inr (by omega)))
  have y4 := KU.out.size
  have HU := Lib.hid hU
  have c22 := G2.out.cell 2
  have f22 := G2.out.frozen 2
  simp only [List.getElem?_toArray, List.getElem?_cons_succ, List.getElem?_cons_zero] at c22
  clear hU
  go_upto_region 4 with fail
  rw [← HU.out]
  clear c22 f22 HU G1 G2 Q1 Q2 Q3 K3 KU
  have b10 := H1.out.cell 0
  have b11 := H1.out.cell 1
  have b12 := H1.out.cell 2
  have b20 := H2.out.cell 0
  have b21 := H2.out.cell 1
  have b22 := H2.out.cell 2
  have f10 := H1.out.frozen 0
  have f11 := H1.out.frozen 1
  have f12 := H1.out.frozen 2
  simp only [List.getElem?_toArray, List.getElem?_cons_succ, List.getElem?_cons_zero] at b10 b11 b12 b20 b21 b22
  obtain ⟨F, hF⟩ : ∃ F, F = ((U.setCell ⟨w.heap.size + 1, 0, none⟩ (.slice D1 t.slots.ages.length d1)).setCell ⟨w.heap.size + 1, 1, none⟩ (.slice D2 t.slots.used.length d2)).setCell ⟨w.heap.size + 1, 2, none⟩ (.slice D3 t.list.length d3) := ⟨_, rfl⟩
  have KF : Hid (Kept (w.heap.size + 1) (w.heap.size + 3) U F) := by
    show Kept _ _ _ _
    rw [hF]
    refine (((Kept.refl (w.heap.size + 1) (w.heap.size + 3) U).setCell (.inr ⟨?_, ?_⟩) _).setCell (.inr ⟨?_, ?_⟩) _).setCell (.inr ⟨?_, ?_⟩) _ <;> (simp only; omega)
  have BF : Hid (Blk F (w.heap.size + 1) 34 #[.slice D1 t.slots.ages.length d1, .slice D2 t.slots.used.length d2, .slice D3 t.list.length d3]) := by
    show Blk _ _ _ _
    rw [hF]
    exact ((H1.out.set_ 0 _).set_ 1 _).set_ 2 _
  have F0 : F.cell? ⟨w.heap.size + 1, 0, none⟩ = some (.slice D1 t.slots.ages.length d1) := BF.out.cell 0
  have F1 : F.cell? ⟨w.heap.size + 1, 1, none⟩ = some (.slice D2 t.slots.used.length d2) := BF.out.cell 1
  have F2 : F.cell? ⟨w.heap.size + 1, 2, none⟩ = some (.slice D3 t.list.length d3) := BF.out.cell 2
  have HF := Lib.hid hF
  have FF := Lib.hid (And.intro F0 (And.intro F1 F2))
  clear hF F0 F1 F2
  go_wp2_with fail
  rw [← HF.out]
  obtain ⟨F0, F1, F2⟩ := FF.out
  have q1 := KF.out.size
  refine bodyPost_ret (v := .agg #[.slice D1 t.slots.ages.length d1, .slice D2 t.slots.used.length d2, .slice D3 t.list.length d3]) (by simp [results, Try.results22, go_sem, F0, F1, F2]) rfl ⟨_, rfl, ⟨_, _, _, rfl, ⟨D1, d1, rfl, ?_⟩, ⟨D2, d2, rfl, ?_⟩, ⟨D3, d3, rfl, ?_⟩⟩, ?_⟩
  · exact (R1.out.kept KF.out (.inr (.inr (by omega)))).wide (by omega) (by omega)
  · exact (R2.out.kept KF.out (.inr (.inr (by omega)))).wide (by omega) (by omega)
  · exact (R3.out.kept KF.out (.inr (.inr (by omega)))).wide (by omega) (by omega)
  · exact K4.out.trans2 KF.out (.inr (by omega))

def szAsN (t : Afs) : Int := (t.slots.ages.length : Int) + t.slots.used.length + t.list.length
set_option maxHeartbeats 800000 in
theorem szAs_pos (t : Afs) (v : Value) (left : Int) (w : World) (h : RdAs w w.heap.size v t) (h0 : szAsN t ≤ left) (h1 : left ≤ 1048576) :
    Calls Try.prog 20 #[v, .int .i64 left] w fun e w' => e = .returned (.int .i64 (left - t.slots.ages.length - t.slots.used.length - t.list.length)) ∧ Kept 0 0 w w' := by
  obtain ⟨hv, lv, sv, rfl, r1, r2, r3⟩ := h
  unfold szAsN at h0
  obtain ⟨W, hW⟩ : ∃ W, W = w.alloc (.cells #[hv, lv, sv] 53) := ⟨_, rfl⟩
  have KW : Hid (Kept 0 0 w W) := by show Kept _ _ _ _; rw [hW]; exact Kept.alloc0 _ _
  have B0 : Hid (Blk W w.heap.size 53 #[hv, lv, sv]) := by show Blk _ _ _ _; rw [hW]; exact Blk.new _ _ _
  have CS := Lib.hid (szSl_pos t.slots _ left W _ ((show RdSl w w.heap.size (.agg #[hv, lv]) t.slots from ⟨_, _, rfl, r1, r2⟩).up KW.out) (by omega) h1)
  have CL : Hid (∀ (l : Int) (X : World), 0 ≤ l → l ≤ 1048576 → Calls Try.prog 45 #[sv, .int .i64 l] X fun e w' => e = .returned (.int .i64 (szF l t.list.length)) ∧ X = w') := by
    have hm := r3.len
    obtain ⟨A3, c3, rfl, s3⟩ := r3
    intro l X h0 h1
    exact szAfS_any A3 t.list.length c3 l X h0 h1 hm
  have E2 : Hid (szF (left - t.slots.ages.length - t.slots.used.length) t.list.length = left - t.slots.ages.length - t.slots.used.length - t.list.length) := szF_pos (by omega)
  obtain ⟨A1, c1, rfl, _⟩ := r1
  obtain ⟨A2, c2, rfl, _⟩ := r2
  obtain ⟨A3, c3, rfl, _⟩ := r3
  have HW := Lib.hid hW
  clear hW
  go_enter Try.func20, Try.ntmps20
  go_wp2_with fail
  rw [← HW.out]
  with_reducible refine CS.out.mono ?_
  rintro e w1 ⟨rfl, hk⟩
  have C0 := B0.out.kept hk (.inl (Nat.le_refl _))
  have c2' : w1.cell? ⟨w.heap.size, 2, none⟩ = some (.slice A3 t.list.length c3) := C0.cell 2
  have K1 := Lib.hid (KW.out.trans hk)
  have g1 : (0 : Int) ≤ left - t.slots.ages.length - t.slots.used.length := by omega
  clear hk C0 HW CS
  go_wp2_with fail
  with_reducible refine (CL.out _ _ g1 (by omega)).mono ?_
  rintro e w' ⟨rfl, rfl⟩
  rw [E2.out]
  go_wp2
  go_ret
  exact ⟨rfl, K1.out⟩
set_option maxHeartbeats 800000 in
theorem szAs_neg (t : Afs) (v : Value) (left : Int) (w : World) (h : RdAs w w.heap.size v t) (h0 : left < szAsN t) (hl : 0 ≤ left) (h1 : left ≤ 1048576) :
    Calls Try.prog 20 #[v, .int .i64 left] w fun e w' => e = .returned (.int .i64 (-1)) ∧ Kept 0 0 w w' := by
  obtain ⟨hv, lv, sv, rfl, r1, r2, r3⟩ := h
  unfold szAsN at h0
  obtain ⟨W, hW⟩ : ∃ W, W = w.alloc (.cells #[hv, lv, sv] 53) := ⟨_, rfl⟩
  have KW : Hid (Kept 0 0 w W) := by show Kept _ _ _ _; rw [hW]; exact Kept.alloc0 _ _
  have B0 : Hid (Blk W w.heap.size 53 #[hv, lv, sv]) := by show Blk _ _ _ _; rw [hW]; exact Blk.new _ _ _
  have RS := Lib.hid ((show RdSl w w.heap.size (.agg #[hv, lv]) t.slots from ⟨_, _, rfl, r1, r2⟩).up KW.out)
  have CL : Hid (∀ (l : Int) (X : World), 0 ≤ l → l ≤ 1048576 → Calls Try.prog 45 #[sv, .int .i64 l] X fun e w' => e = .returned (.int .i64 (szF l t.list.length)) ∧ X = w') := by
    have hm := r3.len
    obtain ⟨A3, c3, rfl, s3⟩ := r3
    intro l X h0 h1
    exact szAfS_any A3 t.list.length c3 l X h0 h1 hm
  obtain ⟨A1, c1, rfl, _⟩ := r1
  obtain ⟨A2, c2, rfl, _⟩ := r2
  obtain ⟨A3, c3, rfl, _⟩ := r3
  have HW := Lib.hid hW
  clear hW
  by_cases hs : left < (t.slots.ages.length : Int) + t.slots.used.length
  · have CS := Lib.hid (szSl_neg t.slots _ left W _ RS.out hs hl h1)
    clear hs
    go_enter Try.func20, Try.ntmps20
    go_wp2_with fail
    rw [← HW.out]
    with_reducible refine CS.out.mono ?_
    rintro e w1 ⟨rfl, hk⟩
    have K1 := Lib.hid (KW.out.trans hk)
    clear hk
    go_wp2
    go_ret
    exact ⟨rfl, K1.out⟩
  have CS := Lib.hid (szSl_pos t.slots _ left W _ RS.out (by omega) h1)
  have E2 : Hid (szF (left - t.slots.ages.length - t.slots.used.length) t.list.length = -1) := szF_neg (by omega)
  go_enter Try.func20, Try.ntmps20
  go_wp2_with fail
  rw [← HW.out]
  with_reducible refine CS.out.mono ?_
  rintro e w1 ⟨rfl, hk⟩
  have C0 := B0.out.kept hk (.inl (Nat.le_refl _))
  have c2' : w1.cell? ⟨w.heap.size, 2, none⟩ = some (.slice A3 t.list.length c3) := C0.cell 2
  have K1 := Lib.hid (KW.out.trans hk)
  have g1 : (0 : Int) ≤ left - t.slots.ages.length - t.slots.used.length := by omega
  clear hk C0 HW CS
  go_wp2_with fail
  with_reducible refine (CL.out _ _ g1 (by omega)).mono ?_
  rintro e w' ⟨rfl, rfl⟩
  rw [E2.out]
  go_wp2
  go_ret
  exact ⟨rfl, K1.out⟩

set_option maxHeartbeats 800000 in
theorem eqAs (t : Afs) (v v' : Value) (w : World) (h : RdAs w w.heap.size v t) (h' : RdAs w w.heap.size v' t) :
    Calls Try.prog 23 #[v, v'] w fun e w' => e = .returned (.bool true) ∧ Kept 0 0 w w' := by
  obtain ⟨hv, lv, sv, rfl, r1, r2, r3⟩ := h
  obtain ⟨hv', lv', sv', rfl, s1, s2, s3⟩ := h'
  obtain ⟨V, hV⟩ : ∃ V, V = (w.alloc (.cells #[hv, lv, sv] 34)).alloc (.cells #[hv', lv', sv'] 34) := ⟨_, rfl⟩
  have KV : Hid (Kept 0 0 w V) := by show Kept _ _ _ _; rw [hV]; exact (Kept.alloc0 _ _).alloc _
  have B0 : Hid (Blk V w.heap.size 34 #[hv, lv, sv]) := by show Blk _ _ _ _; rw [hV]; exact (Blk.new _ _ _).alloc _
  have B1 : Hid (Blk V (w.heap.size + 1) 34 #[hv', lv', sv']) := by
    show Blk _ _ _ _
    rw [hV]
    have := Blk.new (w.alloc (.cells #[hv, lv, sv] 34)) 34 #[hv', lv', sv']
    simpa using this
  have R3 := Lib.hid (r3.up KV.out)
  have S3 := Lib.hid (s3.up KV.out)
  have CE := Lib.hid (eqSl t.slots _ _ V ((show RdSl w w.heap.size (.agg #[hv, lv]) t.slots from ⟨_, _, rfl, r1, r2⟩).up KV.out) ((show RdSl w w.heap.size (.agg #[hv', lv']) t.slots from ⟨_, _, rfl, s1, s2⟩).up KV.out))
  obtain ⟨A1, c1, rfl, _⟩ := r1
  obtain ⟨A2, c2, rfl, _⟩ := r2
  obtain ⟨A3, c3, rfl, _⟩ := r3
  obtain ⟨A1', c1', rfl, _⟩ := s1
  obtain ⟨A2', c2', rfl, _⟩ := s2
  obtain ⟨A3', c3', rfl, _⟩ := s3
  have HV := Lib.hid hV
  clear hV
  go_enter Try.func23, Try.ntmps23
  go_wp2_with fail
  rw [← HV.out]
  with_reducible refine CE.out.mono ?_
  rintro e w1 ⟨rfl, hk⟩
  have K1 := Lib.hid (KV.out.trans hk)
  have C0 := Lib.hid (B0.out.kept hk (.inl (Nat.le_refl _)))
  have C1 := Lib.hid (B1.out.kept hk (.inl (Nat.le_refl _)))
  have CE2 := Lib.hid (eqAf t.list _ _ w1 (R3.out.up hk) (S3.out.up hk))
  clear hk HV CE B0 B1 R3 S3
  have a2 : w1.cell? ⟨w.heap.size, 2, none⟩ = some (.slice A3 t.list.length c3) := C0.out.cell 2
  have b2 : w1.cell? ⟨w.heap.size + 1, 2, none⟩ = some (.slice A3' t.list.length c3') := C1.out.cell 2
  go_wp2_with fail
  with_reducible refine CE2.out.mono ?_
  rintro e w2 ⟨rfl, hk⟩
  have K2 := Lib.hid (K1.out.trans hk)
  clear hk CE2 C0 C1 a2 b2
  go_wp2
  go_ret
  exact ⟨rfl, K2.out⟩
/-- What the marks write. -/
def marksAs (k : Int) (t : Afs) : Afs := ⟨marksSl k t.slots, marksAf (markSlN k t.slots) t.list.length⟩
def markAsN (k : Int) (t : Afs) : Int := markSlN k t.slots + 5 * (t.list.length : Int)

set_option maxHeartbeats 800000 in
theorem markAs (k : Int) (t : Afs) (v : Value) (lo hi : Nat) (w : World) (h : OwnAs w lo hi v t) (hk0 : 0 ≤ k) (hk1 : k ≤ 6000000) (hn : t.slots.ages.length ≤ 1048576) (hn' : t.slots.used.length ≤ 1048576) (hn'' : t.list.length ≤ 1048576) (hh : hi ≤ w.heap.size) :
    Calls Try.prog 25 #[v, .int .i64 k] w fun e w' => e = .returned (.int .i64 (markAsN k t)) ∧ OwnAs w' lo hi v (marksAs k t) ∧ Kept lo hi w w' := by
  obtain ⟨hv, lv, sv, rfl, h1, h2, ⟨D3, d3, rfl, o3⟩⟩ := h
  have OS : OwnSl w lo hi (.agg #[hv, lv]) t.slots := ⟨_, _, rfl, h1, h2⟩
  obtain ⟨W, hW⟩ : ∃ W, W = w.alloc (.cells #[hv, lv, .slice D3 t.list.length d3] 34) := ⟨_, rfl⟩
  have KW : Hid (Kept 0 0 w W) := by show Kept _ _ _ _; rw [hW]; exact Kept.alloc0 _ _
  have B0 : Hid (Blk W w.heap.size 34 #[hv, lv, .slice D3 t.list.length d3]) := by show Blk _ _ _ _; rw [hW]; exact Blk.new _ _ _
  have r3 := o3.range
  have CM := Lib.hid (markSlB k t.slots (.agg #[hv, lv]) lo hi W (OS.kept KW.out (.inl (Nat.le_refl _))) hk0 hk1 hn hn' (by have := KW.out.size; omega) (o3.kept KW.out (.inl (Nat.le_refl _))) (by decide) (by decide))
  obtain ⟨D1, d1, rfl, _⟩ := h1
  obtain ⟨D2, d2, rfl, _⟩ := h2
  have HW := Lib.hid hW
  clear o3 hW OS
  go_enter Try.func25, Try.ntmps25
  go_wp2_with fail
  rw [← HW.out]
  with_reducible refine CM.out.mono ?_
  rintro e w1 ⟨rfl, hs, ho, hk⟩
  have S1 := Lib.hid hs
  have Q3 := Lib.hid ho
  have K1 := Lib.hid ((KW.out.wide (lo' := lo) (hi' := hi) (.inl (Nat.le_refl _))).trans hk)
  have C0 := B0.out.kept hk (by omega)
  have a2 : w1.cell? ⟨w.heap.size, 2, none⟩ = some (.slice D3 t.list.length d3) := C0.cell 2
  have CM2 := Lib.hid (markAfS_own (markSlN k t.slots) t.list D3 d3 lo hi w1 Q3.out (by unfold markSlN; omega) (by unfold markSlN; omega) hn'')
  clear hs ho hk HW CM B0 C0 KW
  go_wp2_with fail
  with_reducible refine CM2.out.mono ?_
  rintro e w2 ⟨rfl, ho, hk⟩
  have R3 := Lib.hid ho
  obtain ⟨_, _, ee, ⟨E1, x1, e1, o1⟩, ⟨E2, x2, e2, o2⟩⟩ := S1.out
  injection ee with ee
  injection ee with ee
  injection ee with ea ee
  injection ee with eb
  have R1 := Lib.hid (Q3.out.other o1 (by decide) hk)
  have R2 := Lib.hid (Q3.out.other o2 (by decide) hk)
  have K2 := Lib.hid (K1.out.trans (hk.wide (by omega)))
  have EA := Lib.hid (ea.trans e1)
  have EB := Lib.hid (eb.trans e2)
  clear ho hk CM2 a2 o1 o2 e1 e2 ea eb
  go_wp2
  go_ret
  exact ⟨rfl, ⟨_, _, _, rfl, ⟨E1, x1, EA.out, R1.out⟩, ⟨E2, x2, EB.out, R2.out⟩, ⟨D3, d3, by rw [show (marksAs k t).list = marksAf (markSlN k t.slots) t.list.length from rfl, marksAf_len], by rw [show (marksAs k t).list = marksAf (markSlN k t.slots) t.list.length from rfl, marksAf_len]; exact R3.out⟩⟩, K2.out⟩

set_option maxHeartbeats 800000 in
theorem heldAs (k : Int) (t : Afs) (v : Value) (w : World) (h : RdAs w w.heap.size v (marksAs k t)) (hk0 : 0 ≤ k) (hk1 : k ≤ 6000000) (hn : t.slots.ages.length ≤ 1048576) (hn' : t.slots.used.length ≤ 1048576) (hn'' : t.list.length ≤ 1048576) :
    Calls Try.prog 26 #[v, .int .i64 k] w fun e w' => e = .returned (.int .i64 (markAsN k t)) ∧ Kept 0 0 w w' := by
  obtain ⟨hv, lv, sv, rfl, h1, h2, h3⟩ := h
  have OS : RdSl w w.heap.size (.agg #[hv, lv]) (marksSl k t.slots) := ⟨_, _, rfl, h1, h2⟩
  obtain ⟨W, hW⟩ : ∃ W, W = w.alloc (.cells #[hv, lv, sv] 34) := ⟨_, rfl⟩
  have KW : Hid (Kept 0 0 w W) := by show Kept _ _ _ _; rw [hW]; exact Kept.alloc0 _ _
  have B0 : Hid (Blk W w.heap.size 34 #[hv, lv, sv]) := by show Blk _ _ _ _; rw [hW]; exact Blk.new _ _ _
  have CM := Lib.hid (heldSl k t.slots (.agg #[hv, lv]) W _ (Nat.le_refl _) (OS.up KW.out) hk0 hk1 hn hn')
  have H3 := Lib.hid h3
  obtain ⟨D1, d1, rfl, _⟩ := h1
  obtain ⟨D2, d2, rfl, _⟩ := h2
  obtain ⟨D3, d3, rfl, _⟩ := h3
  have HW := Lib.hid hW
  have p1 : 0 ≤ markSlN k t.slots := by unfold markSlN; omega
  have p2 : 0 ≤ markSlN k t.slots + 5 * (t.list.length : Int) := by omega
  have p3 : markSlN k t.slots ≤ 10000000 := by unfold markSlN; omega
  obtain ⟨mk, hmk⟩ : ∃ mk, mk = markSlN k t.slots := ⟨_, rfl⟩
  have EM : Hid (markAsN k t = mk + 5 * (t.list.length : Int)) := by show _ = _; rw [hmk]; rfl
  rw [← hmk] at CM p1 p2 p3
  have H4 : Hid (RdAf w w.heap.size (.slice D3 (marksAs k t).list.length d3) (marksAf mk t.list.length)) := by rw [hmk]; exact H3.out
  clear hW OS hmk H3
  go_enter Try.func26, Try.ntmps26
  go_wp2_with fail
  rw [← HW.out]
  with_reducible refine CM.out.mono ?_
  rintro e w1 ⟨rfl, hk⟩
  have K1 := Lib.hid (KW.out.trans hk)
  have C0 := B0.out.kept hk (.inl (Nat.le_refl _))
  have a2 : w1.cell? ⟨w.heap.size, 2, none⟩ = some (.slice D3 (marksAs k t).list.length d3) := C0.cell 2
  have CH := Lib.hid (heldAf mk t.list.length _ w1 _ (H4.out.up K1.out) p1 p3 hn'')
  clear hk HW CM B0 C0 KW
  go_wp2_with fail
  with_reducible refine CH.out.mono ?_
  rintro e w' ⟨rfl, rfl⟩
  go_wp2
  go_ret
  exact ⟨ret_int EM.out.symm, K1.out⟩
end Go.Proofs.Ytnnbfcmbcjkpoaa
