/- The reference's l8Away; condition: valid afters and a place in them. -/
import Derived.Test.YtnnbfcmbcjkpoaaCe
import Derived.Deep.RegionLaw
namespace Go.Proofs.Ytnnbfcmbcjkpoaa
open Go.RowKit Go.Sort

section
variable {w w' : World} {g : Nat} {ty : TypeId} {a b c x y : Value}
/-- A block of two. -/
theorem ay0 (h : Blk w g ty #[a, b]) : w.cell? ⟨g, 0, none⟩ = some a := h.cell 0
theorem ay1 (h : Blk w g ty #[a, b]) : w.cell? ⟨g, 1, none⟩ = some b := h.cell 1
end
theorem kept_appA {w w' : World} {D : Option Addr} (h : w.grownBy w' (rowAt D)) : Kept (aLo D) (aHi D) w w' := by
  cases D with
  | none => exact Kept.of_grown h (by intro k hk; cases hk)
  | some ad => exact Kept.of_grown h (by intro k hk; injection hk with hk; subst hk; exact ⟨Nat.le_refl _, Nat.lt_succ_self _⟩)
/-- Behind the dropping of the handle. -/
def AwSt (w w1 V : World) (va : Array Value) (t : Slt) (l : Value) (wx : World) : Prop :=
  ∃ (E1 : Option Addr) (k1 : Nat) (E2 : Option Addr) (k2 : Nat), Blk wx w1.heap.size 34 #[.slice E1 t.ages.length k1, .slice E2 t.used.length k2, l] ∧ Blk wx (w.heap.size + 1) 34 #[.slice none 0 0, .slice none 0 0, .slice none 0 0] ∧ Blk wx w.heap.size 34 va ∧
    OwnZ wx V.heap.size wx.heap.size 2 1 E1 t.ages.length k1 (iR.flat t.ages) ∧ OwnZ wx V.heap.size wx.heap.size 4 1 E2 t.used.length k2 (bR.flat t.used) ∧ Kept 0 0 w wx ∧ V.heap.size ≤ wx.heap.size
/-- Behind the taking out of the list. -/
def AwSt2 (w w1 V X : World) (t : Slt) (ls : List Aft) (wx : World) : Prop :=
  ∃ (E1 : Option Addr) (k1 : Nat) (E2 : Option Addr) (k2 : Nat) (D6 : Option Addr) (d6 : Nat), Blk wx w1.heap.size 34 #[.slice E1 t.ages.length k1, .slice E2 t.used.length k2, .slice D6 ls.length d6] ∧ Blk wx (w.heap.size + 1) 34 #[.slice none 0 0, .slice none 0 0, .slice none 0 0] ∧
    OwnZ wx V.heap.size X.heap.size 2 1 E1 t.ages.length k1 (iR.flat t.ages) ∧ OwnZ wx V.heap.size X.heap.size 4 1 E2 t.used.length k2 (bR.flat t.used) ∧ wx.ownsRow X.heap.size 42 5 (.slice D6 ls.length d6) ls.length (afR.flat ls) ∧ Kept 0 0 w wx ∧ X.heap.size ≤ wx.heap.size
set_option maxHeartbeats 6400000 in
set_option maxRecDepth 100000 in
theorem away8_any (a : Afs) (i : Nat) (v : Value) (w : World) (h : RdAs w w.heap.size v a) (hb : aftersB a = true) (hi : i < a.list.length) :
    Calls Try.prog 61 #[v, .int .i64 i] w fun e w' => ∃ z, e = .returned z ∧ OwnAs w' w.heap.size w'.heap.size z (awayA a i) ∧ Kept 0 0 w w' := by
  have OK := aftersB_true.1 hb
  have ll := OK.len
  have SB := OK.slots
  have HA := Lib.hid h
  obtain ⟨_, _, _, rfl, ⟨A1, c1, rfl, s1⟩, ⟨A2, c2, rfl, s2⟩, ⟨A3, c3, rfl, s3⟩⟩ := h
  have S3 := Lib.hid s3
  clear s1 s2 s3 OK hb
  obtain ⟨W, hW⟩ : ∃ W, W = (w.alloc (.cells #[.slice A1 a.slots.ages.length c1, .slice A2 a.slots.used.length c2, .slice A3 a.list.length c3] 34)).alloc (.cells #[.slice none 0 0, .slice none 0 0, .slice none 0 0] 34) := ⟨_, rfl⟩
  have KW : Hid (Kept 0 0 w W) := by show Kept _ _ _ _; rw [hW]; exact (Kept.alloc0 _ _).alloc _
  have B0 : Hid (Blk W w.heap.size 34 #[.slice A1 a.slots.ages.length c1, .slice A2 a.slots.used.length c2, .slice A3 a.list.length c3]) := by show Blk _ _ _ _; rw [hW]; exact (Blk.new _ _ _).alloc _
  have R0 : Hid (Blk W (w.heap.size + 1) 34 #[.slice none 0 0, .slice none 0 0, .slice none 0 0]) := by
    show Blk _ _ _ _
    rw [hW]
    have := Blk.new (w.alloc (.cells #[.slice A1 a.slots.ages.length c1, .slice A2 a.slots.used.length c2, .slice A3 a.list.length c3] 34)) 34 #[.slice none 0 0, .slice none 0 0, .slice none 0 0]
    simpa using this
  have zW : w.heap.size + 2 ≤ W.heap.size := by rw [hW]; simp
  have HW := Lib.hid hW
  have b0 := ax0 B0.out
  have b1 := ax1 B0.out
  have b2 := ax2 B0.out
  clear hW
  have RS : Hid (∀ X, Kept 0 0 w X → RdSl X X.heap.size (.agg #[.slice A1 a.slots.ages.length c1, .slice A2 a.slots.used.length c2]) a.slots) := fun X hX => (HA.out.up hX).sl.1
  have CC := Lib.hid (copy8_any a _ W (HA.out.up KW.out) SB ll)
  go_enter Try.func61, Try.ntmps61
  go_upto_region 1 with fail
  rw [← HW.out]
  go_wp2_with fail
  clear b0 b1 b2
  with_reducible refine CC.out.mono ?_
  rintro e w1 ⟨_, rfl, ⟨_, _, _, rfl, ⟨D1, d1, rfl, _⟩, ⟨D2, d2, rfl, _⟩, ⟨D3, d3, rfl, _⟩⟩, hk⟩
  obtain ⟨V, hV⟩ : ∃ V, V = w1.alloc (.cells #[.slice D1 a.slots.ages.length d1, .slice D2 a.slots.used.length d2, .slice D3 a.list.length d3] 34) := ⟨_, rfl⟩
  have kV : Kept 0 0 w1 V := by rw [hV]; exact Kept.alloc0 _ _
  have K2 := Lib.hid (KW.out.trans (hk.trans kV))
  have B2 := Lib.hid (B0.out.kept (hk.trans kV) (.inl (Nat.le_refl _)))
  have R2 := Lib.hid (R0.out.kept (hk.trans kV) (.inl (Nat.le_refl _)))
  have U2 : Hid (Blk V w1.heap.size 34 #[.slice D1 a.slots.ages.length d1, .slice D2 a.slots.used.length d2, .slice D3 a.list.length d3]) := by show Blk _ _ _ _; rw [hV]; exact Blk.new _ _ _
  have z2 := hk.size
  have zV := kV.size
  have yV := U2.out.lt
  have HV := Lib.hid hV
  clear hk kV CC B0 R0 KW HW hV
  obtain ⟨ad, rfl, _, e0, e1, _, _, _⟩ := (S3.out.kept (Nat.le_refl _) K2.out (.inl (Nat.le_refl _))).rd.af hi
  obtain ⟨x, hx⟩ : ∃ x, x = a.list[i] := ⟨_, rfl⟩
  rw [← hx] at e0 e1
  have HX := Lib.hid hx
  clear hx
  have CD := Lib.hid (specDrop a.slots x.slot x.age _ V.drew (RS.out _ K2.out.drew))
  have b0 := ax0 B2.out
  have b1 := ax1 B2.out
  have b2 := ax2 B2.out
  have u0 := ax0 U2.out
  have u1 := ax1 U2.out
  have g0 := U2.out.frozen 0
  have g1 := U2.out.frozen 1
  have i1 : (i : Int) < (a.list.length : Int) := by omega
  have i2 : 0 ≤ (i : Int) := by omega
  go_upto_region 2 with fail
  rw [← HV.out]
  go_cut [5] (fun v5 wx => v5 = .pointer (some ⟨w1.heap.size, 0, none⟩) ∧ AwSt w w1 V #[.slice A1 a.slots.ages.length c1, .slice A2 a.slots.used.length c2, .slice (some ad) a.list.length c3] (dropST a.slots x.slot x.age) (.slice D3 a.list.length d3) wx)
  case first =>
    go_region_with ((with_reducible refine CD.out.mono ?_); rintro e w3 ⟨_, rfl, ⟨_, _, rfl, ⟨E1, k1, rfl, o1⟩, ⟨E2, k2, rfl, o2⟩⟩, hk⟩; have u0 := ax0 (U2.out.drew.kept hk (.inl (Nat.le_refl _))); have u1 := ax1 (U2.out.drew.kept hk (.inl (Nat.le_refl _))); have g0 := (U2.out.drew.kept hk (.inl (Nat.le_refl _))).frozen 0; have g1 := (U2.out.drew.kept hk (.inl (Nat.le_refl _))).frozen 1)
    all_goals (go_wp2_with fail; go_meet)
    all_goals (obtain ⟨V4, hV4⟩ : ∃ V4, V4 = (w3.setCell ⟨w1.heap.size, 0, none⟩ (.slice E1 (dropST a.slots x.slot x.age).ages.length k1)).setCell ⟨w1.heap.size, 1, none⟩ (.slice E2 (dropST a.slots x.slot x.age).used.length k2) := ⟨_, rfl⟩)
    all_goals (have k4 : Kept w1.heap.size (w1.heap.size + 1) w3 V4 := by rw [hV4]; exact ((Kept.refl w1.heap.size (w1.heap.size + 1) w3).setCell (.inr ⟨Nat.le_refl _, Nat.lt_succ_self _⟩) _).setCell (.inr ⟨Nat.le_refl _, Nat.lt_succ_self _⟩) _)
    all_goals (have U4 : Blk V4 w1.heap.size 34 #[.slice E1 (dropST a.slots x.slot x.age).ages.length k1, .slice E2 (dropST a.slots x.slot x.age).used.length k2, .slice D3 a.list.length d3] := by rw [hV4]; exact ((U2.out.drew.kept hk (.inl (Nat.le_refl _))).set_ 0 _).set_ 1 _)
    all_goals (have k3 : Kept 0 0 V w3 := (Kept.refl 0 0 V).drew.trans hk; have q3 := k3.size; have q4 := k4.size)
    all_goals (rw [← hV4]; exact ⟨rfl, E1, k1, E2, k2, U4, (R2.out.kept k3 (.inl (Nat.le_refl _))).kept k4 (.inr (.inl (by omega))), (B2.out.kept k3 (.inl (Nat.le_refl _))).kept k4 (.inr (.inl (by omega))), (o1.kept k4 (.inr (.inr (by simp; omega)))).wide (by simp) (by omega), (o2.kept k4 (.inr (.inr (by simp; omega)))).wide (by simp) (by omega), (K2.out.trans k3).trans2 k4 (.inr (by omega)), by omega⟩)
  case rest =>
    obtain ⟨X, rfl⟩ : ∃ X : World, X = wc := ⟨_, rfl⟩
    obtain ⟨rfl, E1, k1, E2, k2, ux, rx, bx, o1, o2, kx, zx⟩ := hcut
    obtain ⟨t, ht⟩ : ∃ t, t = dropST a.slots x.slot x.age := ⟨_, rfl⟩
    rw [← ht] at ux o1 o2
    have TL := Lib.hid ht
    have UX := Lib.hid ux
    have RX := Lib.hid rx
    have BX := Lib.hid bx
    have P1 := Lib.hid o1
    have P2 := Lib.hid o2
    have KX := Lib.hid kx
    have S4 := Lib.hid ((S3.out.kept (Nat.le_refl _) kx (.inl (Nat.le_refl _))).wide kx.size)
    clear ux rx bx o1 o2 kx ht CD b0 b1 b2 u0 u1 g0 g1 e0 e1 U2 R2 B2 K2
    have b2 := ax2 BX.out
    have u2 := ax2 UX.out
    have g2 := UX.out.frozen 2
    have HT := Lib.hid afSlice
    have m3 := S4.out.cap
    have m4 := S4.out.max
    unfold maxLen at m4
    have yX := UX.out.lt
    have yB := BX.out.lt
    have yU' : w1.heap.size ≠ X.heap.size := by omega
    have yB' : w.heap.size ≠ X.heap.size := by omega
    have SA3 := Lib.hid (show SL afR X X.heap.size (some ad) c3 (a.list.take i) by
      have := S4.out.part (i := 0) (m := i) (c' := c3) (by omega) (by omega) (by unfold maxLen; omega)
      simpa [Addr.add] using this)
    obtain ⟨la, hla⟩ : ∃ la, la = a.list.take i := ⟨_, rfl⟩
    have tk : Hid (la.length = i) := by show _ = _; rw [hla]; simp; omega
    have tk' : la.length ≤ 64 := by have := tk.out; omega
    rw [← hla] at SA3
    obtain ⟨lb, hlb⟩ : ∃ lb, lb = a.list.drop (i + 1) := ⟨_, rfl⟩
    have dk : Hid (lb.length = a.list.length - (i + 1)) := by show _ = _; rw [hlb]; simp
    have dk' : lb.length ≤ 64 := by have := dk.out; omega
    have HLA := Lib.hid hla
    have HLB := Lib.hid hlb
    clear hla hlb
    have p1 : IntKind.i64.wrap ((i : Int) + 1) = (i : Int) + 1 := IntWalk.i64_in _ (by omega)
    have p2 : 0 ≤ (i : Int) + 1 := by omega
    have p3 : ((i : Int) + 1).toNat = i + 1 := by omega
    have p4 : (i : Int) + 1 ≤ (a.list.length : Int) := by omega
    have p5 : (a.list.length : Int) ≤ (c3 : Int) := by omega
    have p6 : (i : Int) ≤ (c3 : Int) := by omega
    have p7 : (i : Int) ≤ (a.list.length : Int) := by omega
    go_upto_region 3 with fail
    go_cut [5] (fun v5 wx => v5 = .pointer (some ⟨w1.heap.size, 0, none⟩) ∧ AwSt2 w w1 V X t (la ++ lb) wx)
    case first =>
      by_cases hd : c3 = i + 1
      · have eb : lb = [] := List.eq_nil_of_length_eq_zero (by have := dk.out; omega)
        subst eb
        subst hd
        have p8 : (i : Int) ≤ (i : Int) + 1 := by omega
        have p9 : i ≤ i + 1 := by omega
        go_region_law (first
            | (refine step_app (R := afR) rfl (.tmp 21) (.tmp 25) rfl HT.out X.heap.size (some ⟨X.heap.size, 0, none⟩) 0 [] rfl (own_emptyZ (Blk.new X 42 #[]).drew (Nat.le_refl _)) X.heap.size (some ad) (i + 1) la (by rw [tk.out]; rfl) (by exact SA3.out.rd.kept (Nat.le_refl _) (Kept.alloc0 X (.cells #[] 42)).drew (.inl (Nat.le_refl _))) (by simp [maxLen]; omega) (by simp; omega) (by simp) ?_; intro D5 d5 w5 hown hgrow hat; have c5 : Kept X.heap.size (X.heap.size + 1) (X.alloc (.cells #[] 42)).drew w5 := kept_of_row hgrow; have k5 : Kept 0 0 X w5 := (Kept.alloc0 X (.cells #[] 42)).drew.trans2 c5 (.inr (Nat.le_refl _)); have O5 : w5.ownsRow X.heap.size 42 5 (.slice D5 la.length d5) la.length (afR.flat la) := hown; have z5 := k5.size; have Y0 := BX.out.kept k5 (.inl (Nat.le_refl _)); have y0 := ax2 Y0; have Y1 := UX.out.kept k5 (.inl (Nat.le_refl _)); have y1 := ax2 Y1; have N5 := (fun g hg => (own_row_lo hown g hg).1); clear hown hgrow hat)
            | (have _t := O5; refine step_app (R := afR) rfl (.tmp 26) (.tmp 31) rfl HT.out X.heap.size D5 d5 la (by first | rfl | (rw [tk.out]; rfl)) O5 X.heap.size (some ad) 0 [] (by first | rfl | (rw [dk.out]; rfl)) (RdR.nil _ _ _) (by unfold maxLen; simp; omega) (by first | omega | (simp; omega)) z5 ?_; intro D6 d6 w6 hown hgrow hat; have k6 : Kept 0 0 X w6 := k5.app hgrow N5; have O6 := hown; have z6 := k6.size; have Y2 := UX.out.kept k6 (.inl (Nat.le_refl _)); have yv := ax2 Y2; have fy := Y2.frozen 2; clear hown hgrow hat))
        all_goals (go_wp2_with fail; go_meet)
        all_goals (obtain ⟨V4, hV4⟩ : ∃ V4, V4 = w6.setCell ⟨w1.heap.size, 2, none⟩ (.slice D6 (la.length) d6) := ⟨_, rfl⟩)
        all_goals (have k4 : Kept w1.heap.size (w1.heap.size + 1) w6 V4 := by rw [hV4]; exact (Kept.refl w1.heap.size (w1.heap.size + 1) w6).setCell (.inr ⟨Nat.le_refl _, Nat.lt_succ_self _⟩) _)
        all_goals (have U6 : Blk V4 w1.heap.size 34 #[.slice E1 t.ages.length k1, .slice E2 t.used.length k2, .slice D6 (la ++ []).length d6] := by rw [hV4]; have := Y2.set_ 2 (.slice D6 (la.length) d6); simpa using this)
        all_goals (have O7 := row_other O6 (row_ne O6 Y2 (by decide)) k4)
        all_goals (rw [← hV4]; exact ⟨rfl, E1, k1, E2, k2, D6, d6, U6, (RX.out.kept k6 (.inl (Nat.le_refl _))).kept k4 (.inr (by omega)), (P1.out.kept k6 (.inl (Nat.le_refl _))).kept k4 (.inr (.inr (by omega))), (P2.out.kept k6 (.inl (Nat.le_refl _))).kept k4 (.inr (.inr (by omega))), (by simpa [afR_k] using O7), (KX.out.trans k6).trans2 k4 (.inr (by omega)), Nat.le_trans z6 k4.size⟩)
      · have SB3 := Lib.hid (show SL afR X X.heap.size (some (ad.add ((i + 1) * 5))) (c3 - (i + 1)) lb by
          have := S4.out.part (i := i + 1) (m := a.list.length - (i + 1)) (c' := c3 - (i + 1)) (by omega) (by omega) (by unfold maxLen; omega)
          rw [List.take_of_length_le (by simp), ← HLB.out] at this
          simpa [afR_k] using this)
        have hd' : ¬ (c3 : Int) = (i : Int) + 1 := by omega
        go_region_law (first
            | (refine step_app (R := afR) rfl (.tmp 21) (.tmp 25) rfl HT.out X.heap.size (some ⟨X.heap.size, 0, none⟩) 0 [] rfl (own_emptyZ (Blk.new X 42 #[]).drew (Nat.le_refl _)) X.heap.size (some ad) c3 la (by rw [tk.out]; rfl) (by exact SA3.out.rd.kept (Nat.le_refl _) (Kept.alloc0 X (.cells #[] 42)).drew (.inl (Nat.le_refl _))) (by simp [maxLen]; omega) (by simp; omega) (by simp) ?_; intro D5 d5 w5 hown hgrow hat; have c5 : Kept X.heap.size (X.heap.size + 1) (X.alloc (.cells #[] 42)).drew w5 := kept_of_row hgrow; have k5 : Kept 0 0 X w5 := (Kept.alloc0 X (.cells #[] 42)).drew.trans2 c5 (.inr (Nat.le_refl _)); have O5 : w5.ownsRow X.heap.size 42 5 (.slice D5 la.length d5) la.length (afR.flat la) := hown; have z5 := k5.size; have Y0 := BX.out.kept k5 (.inl (Nat.le_refl _)); have y0 := ax2 Y0; have Y1 := UX.out.kept k5 (.inl (Nat.le_refl _)); have y1 := ax2 Y1; have N5 := (fun g hg => (own_row_lo hown g hg).1); clear hown hgrow hat)
            | (have _t := O5; refine step_app (R := afR) rfl (.tmp 26) (.tmp 31) rfl HT.out X.heap.size D5 d5 la (by first | rfl | (rw [tk.out]; rfl)) O5 X.heap.size (some (ad.add ((i + 1) * 5))) (c3 - (i + 1)) lb (by first | rfl | (rw [dk.out]; rfl)) (by exact SB3.out.rd.kept (Nat.le_refl _) k5 (.inl (Nat.le_refl _))) (by unfold maxLen; simp; omega) (by first | omega | (simp; omega)) z5 ?_; intro D6 d6 w6 hown hgrow hat; have k6 : Kept 0 0 X w6 := k5.app hgrow N5; have O6 := hown; have z6 := k6.size; have Y2 := UX.out.kept k6 (.inl (Nat.le_refl _)); have yv := ax2 Y2; have fy := Y2.frozen 2; clear hown hgrow hat))
        all_goals (go_wp2_with fail; go_meet)
        all_goals (obtain ⟨V4, hV4⟩ : ∃ V4, V4 = w6.setCell ⟨w1.heap.size, 2, none⟩ (.slice D6 (la.length + lb.length) d6) := ⟨_, rfl⟩)
        all_goals (have k4 : Kept w1.heap.size (w1.heap.size + 1) w6 V4 := by rw [hV4]; exact (Kept.refl w1.heap.size (w1.heap.size + 1) w6).setCell (.inr ⟨Nat.le_refl _, Nat.lt_succ_self _⟩) _)
        all_goals (have U6 : Blk V4 w1.heap.size 34 #[.slice E1 t.ages.length k1, .slice E2 t.used.length k2, .slice D6 (la ++ lb).length d6] := by rw [hV4]; have := Y2.set_ 2 (.slice D6 (la.length + lb.length) d6); simpa using this)
        all_goals (have O7 := row_other O6 (row_ne O6 Y2 (by decide)) k4)
        all_goals (rw [← hV4]; exact ⟨rfl, E1, k1, E2, k2, D6, d6, U6, (RX.out.kept k6 (.inl (Nat.le_refl _))).kept k4 (.inr (by omega)), (P1.out.kept k6 (.inl (Nat.le_refl _))).kept k4 (.inr (.inr (by omega))), (P2.out.kept k6 (.inl (Nat.le_refl _))).kept k4 (.inr (.inr (by omega))), (by simpa [afR_k] using O7), (KX.out.trans k6).trans2 k4 (.inr (by omega)), Nat.le_trans z6 k4.size⟩)
    case rest =>
      have EA : Hid (awayA a i = ⟨t, la ++ lb⟩) := by
        show _ = _
        have hg : a.list.getD i ⟨0, 0, 0, 0, false⟩ = x := by rw [HX.out]; simp [hi]
        unfold awayA
        rw [hg, ← TL.out, ← HLA.out, ← HLB.out]
      obtain ⟨wx, rfl⟩ : ∃ wx : World, wx = wc := ⟨_, rfl⟩
      clear UX RX BX P1 P2 KX b2 u2 g2
      obtain ⟨rfl, E1, k1, E2, k2, D6, d6, U6, R6, o1, o2, O7, K7, z7⟩ := hcut
      obtain ⟨ls, hls⟩ : ∃ ls, ls = la ++ lb := ⟨_, rfl⟩
      rw [← hls] at U6 O7 EA
      have v0 := ax0 U6
      have v1 := ax1 U6
      have v2 := ax2 U6
      have r0 := ax0 R6
      have r1 := ax1 R6
      have r2 := ax2 R6
      have f0 := R6.frozen 0
      have f1 := R6.frozen 1
      have f2 := R6.frozen 2
      obtain ⟨F, hF⟩ : ∃ F, F = ((wx.setCell ⟨w.heap.size + 1, 0, none⟩ (.slice E1 t.ages.length k1)).setCell ⟨w.heap.size + 1, 1, none⟩ (.slice E2 t.used.length k2)).setCell ⟨w.heap.size + 1, 2, none⟩ (.slice D6 ls.length d6) := ⟨_, rfl⟩
      have BF : Blk F (w.heap.size + 1) 34 #[.slice E1 t.ages.length k1, .slice E2 t.used.length k2, .slice D6 ls.length d6] := by rw [hF]; exact ((R6.set_ 0 _).set_ 1 _).set_ 2 _
      have KF : Kept (w.heap.size + 1) (w.heap.size + 2) wx F := by rw [hF]; exact (((Kept.refl (w.heap.size + 1) (w.heap.size + 2) wx).setCell (.inr ⟨Nat.le_refl _, Nat.lt_succ_self _⟩) _).setCell (.inr ⟨Nat.le_refl _, Nat.lt_succ_self _⟩) _).setCell (.inr ⟨Nat.le_refl _, Nat.lt_succ_self _⟩) _
      have F0 := ax0 BF
      have F1 := ax1 BF
      have F2 := ax2 BF
      have HF1 := Lib.hid (row_other O7 (row_ne O7 R6 (by decide)) KF)
      have zF := KF.size
      have HO1 := Lib.hid (o1.kept KF (.inr (.inr (by omega))))
      have HO2 := Lib.hid (o2.kept KF (.inr (.inr (by omega))))
      have HK := Lib.hid (K7.trans2 KF (.inr (by omega)))
      have HF := Lib.hid hF
      clear U6 R6 O7 K7 o1 o2 BF KF hls hF
      go_wp2_with fail
      rw [← HF.out]
      refine bodyPost_ret (v := .agg #[.slice E1 t.ages.length k1, .slice E2 t.used.length k2, .slice D6 ls.length d6]) (by simp [results, Try.results61, go_sem, F0, F1, F2]) rfl ⟨_, rfl, ?_, HK.out⟩
      rw [EA.out]
      exact ⟨_, _, _, rfl, ⟨E1, k1, rfl, HO1.out.wide (by omega) (by omega)⟩, ⟨E2, k2, rfl, HO2.out.wide (by omega) (by omega)⟩, ⟨D6, d6, rfl, (OwnZ.of_row HF1.out).wide (by omega) (Nat.le_refl _)⟩⟩
end Go.Proofs.Ytnnbfcmbcjkpoaa
