/- The program's remove: a function less, or none where the handle cannot be dropped; condition: the functions are in memory as Dfr says, the handle is among them. -/
import Derived.Test.YtnnbfcmbcjkpoaaCs
namespace Go.Proofs.Ytnnbfcmbcjkpoaa
open Go.RowKit Go.Sort

/-- Where the first function with handle a stands. -/
def AtH (ps : List (Aft × Nat)) (a : Int × Int) (i : Nat) : Prop := ∃ hi : i < ps.length, hnd ps[i].1 = a ∧ ∀ j (hj : j < i), hnd (ps[j]'(by omega)).1 ≠ a
theorem AtH.key {ps : List (Aft × Nat)} {a : Int × Int} {i : Nat} (h : AtH ps a i) : KeyAt (kvOf ps) a i := by
  obtain ⟨hi, h1, h2⟩ := h
  exact ⟨by rw [kvOf_len]; exact hi, by simpa [kvOf] using h1, fun k hk => by simpa [kvOf] using h2 k hk⟩
theorem AtH.hd {ps : List (Aft × Nat)} {a : Int × Int} {i : Nat} (h : AtH ps a i) : HdAt (ps.map fun p => hnd p.1) a i := by
  obtain ⟨hi, h1, h2⟩ := h
  exact ⟨by simpa using hi, by simpa using h1, fun k hk => by simpa using h2 k hk⟩
/-- The blocks that remove writes. -/
def offR (o : Obj) : Bool := isTy 40 o || (isTy 77 o || isMp o)
theorem offR_h (o : Obj) (h : offR o = false) : isTy 40 o = false := by simp only [offR, Bool.or_eq_false_iff] at h; exact h.1
theorem offR_d (o : Obj) (h : offR o = false) : isTy 77 o = false := by simp only [offR, Bool.or_eq_false_iff] at h; exact h.2.1
theorem offR_m (o : Obj) (h : offR o = false) : isMp o = false := by simp only [offR, Bool.or_eq_false_iff] at h; exact h.2.2
/-- The slots behind a drop, in a box. -/
def RmSt (W : World) (lo : Nat) (t' : Slt) (bx : Nat) (wx : World) : Prop := ∃ E1 k1 E2 k2, Blk wx bx 31 #[.slice E1 t'.ages.length k1, .slice E2 t'.used.length k2] ∧
  OwnZ wx lo wx.heap.size 2 1 E1 t'.ages.length k1 (iR.flat t'.ages) ∧ OwnZ wx lo wx.heap.size 4 1 E2 t'.used.length k2 (bR.flat t'.used) ∧ Kept 0 0 W wx
section
variable {W w3 : World} {lo b l k1 k2 : Nat} {E1 E2 : Option Addr} {t' : Slt}
theorem RmSt.boxed (hk : Kept 0 0 W w3) (o1 : OwnZ w3 l w3.heap.size 2 1 E1 t'.ages.length k1 (iR.flat t'.ages)) (o2 : OwnZ w3 l w3.heap.size 4 1 E2 t'.used.length k2 (bR.flat t'.used)) (hl : lo ≤ l) : RmSt W lo t' w3.heap.size (w3.alloc (.cells #[.slice E1 t'.ages.length k1, .slice E2 t'.used.length k2] 31)) :=
  have k := Kept.alloc0 w3 (.cells #[.slice E1 t'.ages.length k1, .slice E2 t'.used.length k2] 31)
  ⟨E1, k1, E2, k2, Blk.new _ _ _, (o1.kept k (.inl (Nat.le_refl _))).wide hl k.size, (o2.kept k (.inl (Nat.le_refl _))).wide hl k.size, hk.trans k⟩
theorem RmSt.stored (hk : Kept 0 0 W w3) (hb : Blk w3 b 31 #[.slice none 0 0, .slice none 0 0]) (hw : W.heap.size ≤ b) (o1 : OwnZ w3 l w3.heap.size 2 1 E1 t'.ages.length k1 (iR.flat t'.ages)) (o2 : OwnZ w3 l w3.heap.size 4 1 E2 t'.used.length k2 (bR.flat t'.used)) (hl : lo ≤ l) : RmSt W lo t' b ((w3.setCell ⟨b, 0, none⟩ (.slice E1 t'.ages.length k1)).setCell ⟨b, 1, none⟩ (.slice E2 t'.used.length k2)) := by
  have b1 := hb.set_ 0 (.slice E1 t'.ages.length k1)
  have off := (Off.set_ hb 0 (.slice E1 t'.ages.length k1)).trans (Off.set_ b1 1 (.slice E2 t'.used.length k2))
  have z : w3.heap.size = ((w3.setCell ⟨b, 0, none⟩ (.slice E1 t'.ages.length k1)).setCell ⟨b, 1, none⟩ (.slice E2 t'.used.length k2)).heap.size := by simp [World.setCell]
  refine ⟨E1, k1, E2, k2, by simpa using b1.set_ 1 _, ?_, ?_, (hk.setCell (.inl hw) _).setCell (.inl hw) _⟩
  · rw [← z]; exact (o1.off off (fun _ => rfl)).wide hl (Nat.le_refl _)
  · rw [← z]; exact (o2.off off (fun _ => rfl)).wide hl (Nat.le_refl _)
end
set_option maxHeartbeats 3200000 in
set_option maxRecDepth 100000 in
theorem remove_no {w : World} {lo g m c1 c2 c3 : Nat} {A1 A2 A3 : Option Addr} {t : Slt} {hs : List (Int × Int)} {ps : List (Aft × Nat)} (h : Dfr w lo g m A1 c1 A2 c2 A3 c3 t hs ps) (a : Int × Int) (hlo : lo ≤ w.heap.size) (hb : dropSB t a.1 a.2 = false) :
    Calls Try.prog 38 #[.pointer (some ⟨g, 0, none⟩), hkey a] w fun e w' => e = .returned (.bool false) ∧ Kept 0 0 w w' := by
  obtain ⟨W, hW⟩ : ∃ W, W = w.alloc (.cells #[.int .i64 a.1, .int .i64 a.2] 40) := ⟨_, rfl⟩
  have KW : Hid (Kept 0 0 w W) := by show Kept _ _ _ _; rw [hW]; exact Kept.alloc0 _ _
  have B0 : Hid (Blk W w.heap.size 40 #[.int .i64 a.1, .int .i64 a.2]) := by show Blk _ _ _ _; rw [hW]; exact Blk.new _ _ _
  have H := Lib.hid (h.kept KW.out)
  have CD : Hid (∀ X, Kept 0 0 W X → Calls Try.prog 64 #[.agg #[.slice A1 t.ages.length c1, .slice A2 t.used.length c2], .agg #[.int .i64 a.1, .int .i64 a.2]] X fun e w' => ∃ z, e = .returned (.tuple #[z, .bool false]) ∧ OwnSl w' X.heap.size w'.heap.size z (dropST t a.1 a.2) ∧ Kept 0 0 X w') := fun X hX => by
    have := implDrop t a.1 a.2 _ X ((H.out.kept hX).rdS)
    rwa [hb] at this
  have zW := KW.out.size
  have gw := H.out.blk.lt
  have gz := B0.out.lt
  have x0 : W.cell? ⟨g, 0, none⟩ = some (.slice A1 t.ages.length c1) := H.out.blk.cell 0
  have x1 : W.cell? ⟨g, 1, none⟩ = some (.slice A2 t.used.length c2) := H.out.blk.cell 1
  have x2 : W.cell? ⟨w.heap.size, 0, none⟩ = some (.int .i64 a.1) := B0.out.cell 0
  have x3 : W.cell? ⟨w.heap.size, 1, none⟩ = some (.int .i64 a.2) := B0.out.cell 1
  have HW := Lib.hid hW
  unfold hkey
  clear hW h hb
  go_enter Try.func38, Try.ntmps38
  go_upto_region 1 with fail
  rw [← HW.out]
  go_cut [5, 6] (fun v5 v6 wx => ∃ bx, v5 = .pointer (some ⟨bx, 0, none⟩) ∧ v6 = .bool false ∧ Hid (RmSt W lo (dropST t a.1 a.2) bx wx))
  case first =>
    go_region_with (first
      | ((with_reducible refine (CD.out _ (Kept.refl 0 0 W).drew).mono ?_); rintro e w3 ⟨_, rfl, ⟨_, _, rfl, ⟨E1, k1, rfl, o1⟩, ⟨E2, k2, rfl, o2⟩⟩, hk⟩; have k3 : Kept 0 0 W w3 := (Kept.refl 0 0 W).drew.trans hk)
      | ((with_reducible refine (CD.out _ (Kept.alloc0 W (.cells #[.slice none 0 0, .slice none 0 0] 31)).drew).mono ?_); rintro e w3 ⟨_, rfl, ⟨_, _, rfl, ⟨E1, k1, rfl, o1⟩, ⟨E2, k2, rfl, o2⟩⟩, hk⟩; have k3 : Kept 0 0 W w3 := (Kept.alloc0 W (.cells #[.slice none 0 0, .slice none 0 0] 31)).drew.trans hk; have bx := (Blk.new W 31 #[.slice none 0 0, .slice none 0 0]).drew.kept hk (.inl (Nat.le_refl _)); have u0 := bx.cell 0; have u1 := bx.cell 1; have v0 := bx.frozen 0; have v1 := bx.frozen 1; simp only [List.getElem?_toArray, List.getElem?_cons_succ, List.getElem?_cons_zero] at u0 u1))
    all_goals (go_wp2_with fail; go_meet)
    all_goals first
      | exact ⟨_, rfl, rfl, RmSt.boxed k3 o1 o2 (by simp; omega)⟩
      | exact ⟨_, rfl, rfl, RmSt.stored k3 bx (Nat.le_refl _) o1 o2 (by simp; omega)⟩
  case rest =>
    obtain ⟨X, rfl⟩ : ∃ X : World, X = wc := ⟨_, rfl⟩
    obtain ⟨bx, rfl, rfl, hx⟩ := hcut
    obtain ⟨_, _, _, _, _, _, _, kx⟩ := hx.out
    have KX := Lib.hid (KW.out.trans kx)
    clear hx kx x0 x1 x2 x3
    go_wp2
    go_ret
    exact ⟨rfl, KX.out⟩
set_option maxHeartbeats 3200000 in
set_option maxRecDepth 100000 in
theorem remove_yes {w : World} {lo g m c1 c2 c3 : Nat} {A1 A2 A3 : Option Addr} {t : Slt} {hs : List (Int × Int)} {ps : List (Aft × Nat)} (h : Dfr w lo g m A1 c1 A2 c2 A3 c3 t hs ps) (a : Int × Int) (i : Nat) (hi : AtH ps a i) (hh : hs = ps.map fun p => hnd p.1) (hn : hs.Nodup) (hl : hs.length ≤ 1000) (hlo : lo ≤ w.heap.size) (hb : dropSB t a.1 a.2 = true) :
    Calls Try.prog 38 #[.pointer (some ⟨g, 0, none⟩), hkey a] w fun e w' => e = .returned (.bool true) ∧ ∃ D1 d1 D2 d2 D d, Dfr w' lo g m D1 d1 D2 d2 D d (dropST t a.1 a.2) (hs.eraseIdx i) (ps.eraseIdx i) ∧ Below lo w w' ∧ Off offR w w' := by
  obtain ⟨W, hW⟩ : ∃ W, W = w.alloc (.cells #[.int .i64 a.1, .int .i64 a.2] 40) := ⟨_, rfl⟩
  have KW : Hid (Kept 0 0 w W) := by show Kept _ _ _ _; rw [hW]; exact Kept.alloc0 _ _
  have B0 : Hid (Blk W w.heap.size 40 #[.int .i64 a.1, .int .i64 a.2]) := by show Blk _ _ _ _; rw [hW]; exact Blk.new _ _ _
  have H := Lib.hid (h.kept KW.out)
  have CD : Hid (∀ X, Kept 0 0 W X → Calls Try.prog 64 #[.agg #[.slice A1 t.ages.length c1, .slice A2 t.used.length c2], .agg #[.int .i64 a.1, .int .i64 a.2]] X fun e w' => ∃ z, e = .returned (.tuple #[z, .bool true]) ∧ OwnSl w' X.heap.size w'.heap.size z (dropST t a.1 a.2) ∧ Kept 0 0 X w') := fun X hX => by
    have := implDrop t a.1 a.2 _ X ((H.out.kept hX).rdS)
    rwa [hb] at this
  have zW := KW.out.size
  have gw := H.out.blk.lt
  have gz := B0.out.lt
  have x0 : W.cell? ⟨g, 0, none⟩ = some (.slice A1 t.ages.length c1) := H.out.blk.cell 0
  have x1 : W.cell? ⟨g, 1, none⟩ = some (.slice A2 t.used.length c2) := H.out.blk.cell 1
  have x2 : W.cell? ⟨w.heap.size, 0, none⟩ = some (.int .i64 a.1) := B0.out.cell 0
  have x3 : W.cell? ⟨w.heap.size, 1, none⟩ = some (.int .i64 a.2) := B0.out.cell 1
  have HW := Lib.hid hW
  have HG := Lib.hid h.o
  have HI := Lib.hid hi
  have HH := Lib.hid hh
  have HN := Lib.hid hn
  unfold hkey
  clear hW h hi hh hn hb
  go_enter Try.func38, Try.ntmps38
  go_upto_region 1 with fail
  rw [← HW.out]
  go_cut [5, 6] (fun v5 v6 wx => ∃ bx, v5 = .pointer (some ⟨bx, 0, none⟩) ∧ v6 = .bool true ∧ Hid (RmSt W lo (dropST t a.1 a.2) bx wx))
  case first =>
    go_region_with (first
      | ((with_reducible refine (CD.out _ (Kept.refl 0 0 W).drew).mono ?_); rintro e w3 ⟨_, rfl, ⟨_, _, rfl, ⟨E1, k1, rfl, o1⟩, ⟨E2, k2, rfl, o2⟩⟩, hk⟩; have k3 : Kept 0 0 W w3 := (Kept.refl 0 0 W).drew.trans hk)
      | ((with_reducible refine (CD.out _ (Kept.alloc0 W (.cells #[.slice none 0 0, .slice none 0 0] 31)).drew).mono ?_); rintro e w3 ⟨_, rfl, ⟨_, _, rfl, ⟨E1, k1, rfl, o1⟩, ⟨E2, k2, rfl, o2⟩⟩, hk⟩; have k3 : Kept 0 0 W w3 := (Kept.alloc0 W (.cells #[.slice none 0 0, .slice none 0 0] 31)).drew.trans hk; have bx := (Blk.new W 31 #[.slice none 0 0, .slice none 0 0]).drew.kept hk (.inl (Nat.le_refl _)); have u0 := bx.cell 0; have u1 := bx.cell 1; have v0 := bx.frozen 0; have v1 := bx.frozen 1; simp only [List.getElem?_toArray, List.getElem?_cons_succ, List.getElem?_cons_zero] at u0 u1))
    all_goals (go_wp2_with fail; go_meet)
    all_goals first
      | exact ⟨_, rfl, rfl, RmSt.boxed k3 o1 o2 (by simp; omega)⟩
      | exact ⟨_, rfl, rfl, RmSt.stored k3 bx (Nat.le_refl _) o1 o2 (by simp; omega)⟩
  case rest =>
    obtain ⟨X, rfl⟩ : ∃ X : World, X = wc := ⟨_, rfl⟩
    obtain ⟨bx, rfl, rfl, hx⟩ := hcut
    obtain ⟨E1, k1, E2, k2, hbx, o1, o2, kx⟩ := hx.out
    have HX := Lib.hid (H.out.kept kx)
    have BX := Lib.hid hbx
    have B0X := Lib.hid (B0.out.kept kx (.inl (Nat.le_refl _)))
    have DV := Lib.hid (HX.out.slots o1 o2)
    have KX := Lib.hid (KW.out.trans kx)
    have zX := KX.out.size
    obtain ⟨t', ht'⟩ : ∃ t', t' = dropST t a.1 a.2 := ⟨_, rfl⟩
    rw [← ht'] at DV BX
    have HT' := Lib.hid ht'
    obtain ⟨V, hV⟩ : ∃ V, V = (X.setCell ⟨g, 0, none⟩ (.slice E1 t'.ages.length k1)).setCell ⟨g, 1, none⟩ (.slice E2 t'.used.length k2) := ⟨_, rfl⟩
    rw [← hV] at DV
    have b1 := HX.out.blk.set_ 0 (.slice E1 t'.ages.length k1)
    have off : Off (isTy 77) X V := by rw [hV]; exact (Off.set_ HX.out.blk 0 _).trans (Off.set_ b1 1 _)
    have BV := Lib.hid (B0X.out.off off (by rfl))
    have LV : Hid (Below lo w V) := by
      show Below _ _ _
      rw [hV]
      exact ((KX.out.below hlo (.inl (Nat.le_refl _))).setCell HX.out.glo _).setCell HX.out.glo _
    have OFV : Hid (Off offR w V) := (Off.of_kept KX.out).trans (off.weak offR_d)
    have HV := Lib.hid hV
    have zV : X.heap.size = V.heap.size := by rw [hV]; simp [World.setCell]
    have y0 : X.cell? ⟨bx, 0, none⟩ = some (.slice E1 t'.ages.length k1) := BX.out.cell 0
    have y1 : X.cell? ⟨bx, 1, none⟩ = some (.slice E2 t'.used.length k2) := BX.out.cell 1
    have q0 : X.cell? ⟨g, 0, none⟩ = some (.slice A1 t.ages.length c1) := HX.out.blk.cell 0
    have q1 : X.cell? ⟨g, 1, none⟩ = some (.slice A2 t.used.length c2) := HX.out.blk.cell 1
    have r0 := HX.out.blk.frozen 0
    have r1 := HX.out.blk.frozen 1
    clear hx hbx o1 o2 kx ht' b1 off hV x0 x1 x2 x3 CD B0 H KW
    go_upto_region 5 with fail
    rw [← HV.out]
    clear y0 y1 q0 q1 r0 r1 HV
    obtain ⟨w5, hp, hm5, k5⟩ := (DV.out.map.kept (Kept.refl 0 0 V).drew (.inl (Nat.le_refl _))).del HI.out.key 0
    have hdl : ∀ ty, (Builtin.delete_ #[75, 40] ty #[.map (some m), .agg #[.int .i64 a.1, .int .i64 a.2]]).run Try.prog V.drew = .ok (.tuple #[]) w5 := fun ty => hp
    have D5 : Hid (Dfr w5 lo g m E1 k1 E2 k2 A3 c3 t' hs (ps.eraseIdx i)) := by
      refine Dfr.mapped (DV.out.kept (Kept.refl 0 0 V).drew) k5 (by rw [show kvOf (ps.eraseIdx i) = (kvOf ps).eraseIdx i from map_erase _ _ _]; exact hm5) ?_ ?_
      · intro p hp
        have hp' := (List.eraseIdx_sublist ps i).subset hp
        exact ⟨(DV.out.box p hp').1, (DV.out.box p hp').2.drew⟩
      · rw [map_erase]
        exact (List.eraseIdx_sublist _ i).nodup DV.out.nod
    have B5 : Hid (Blk w5 w.heap.size 40 #[.int .i64 a.1, .int .i64 a.2]) := BV.out.drew.off (Off.map (DV.out.map.kept (Kept.refl 0 0 V).drew (.inl (Nat.le_refl _))) k5) (by rfl)
    have OF5 : Hid (Off offR w w5) := (OFV.out.trans (Off.of_kept (Kept.refl 0 0 V).drew)).trans ((Off.map (DV.out.map.kept (Kept.refl 0 0 V).drew (.inl (Nat.le_refl _))) k5).weak offR_m)
    have L5 : Hid (Below lo w w5) := (LV.out.trans ((Kept.refl 0 0 V).drew.below (B := lo) (by omega) (.inl (Nat.le_refl _)))).trans (k5.below (B := lo) (by show lo ≤ V.heap.size; omega) (.inr DV.out.mlo))
    have v3 : V.cell? ⟨g, 3, none⟩ = some (.map (some m)) := DV.out.blk.cell 3
    have v0 : V.cell? ⟨w.heap.size, 0, none⟩ = some (.int .i64 a.1) := BV.out.cell 0
    have v1 : V.cell? ⟨w.heap.size, 1, none⟩ = some (.int .i64 a.2) := BV.out.cell 1
    have vg := DV.out.blk.lt
    have vz := BV.out.lt
    clear hp hm5 k5
    go_region
    clear v0 v1 v3 vg vz hdl DV BV LV
    have RO := D5.out.row
    obtain ⟨ga, rfl⟩ : ∃ ga, A3 = some ⟨ga, 0, none⟩ := by
      rcases RO.form with ⟨_, h0, _⟩ | ⟨ga, e, _⟩
      · exfalso
        obtain ⟨hi, _⟩ := HI.out
        have := HH.out
        rw [this] at h0
        simp at h0
        subst h0
        simp at hi
      · exact ⟨ga, e⟩
    have hne : w.heap.size ≠ ga := by have := (HG.out.lt ga rfl).2; omega
    have CD := Lib.hid (deleteH_any w5 lo ga c3 w.heap.size hs a i D5.out.o B5.out hne (by rw [HH.out]; exact HI.out.hd) hl)
    have v2 : w5.cell? ⟨g, 2, none⟩ = some (.slice (some ⟨ga, 0, none⟩) hs.length c3) := D5.out.blk.cell 2
    have vg := D5.out.blk.lt
    clear RO hne
    go_wp2_with fail
    with_reducible refine CD.out.mono ?_
    rintro e w6 ⟨ys, d', rfl, hys, ho, hk⟩
    have hy2 : ys = hs.eraseIdx i := hys.trans (filter_erase hs a i (by rw [HH.out]; exact HI.out.hd) HN.out)
    subst hy2
    have gr : w5.grownBy w6 (rowAt (some ⟨ga, 0, none⟩)) := ⟨hk.os, hk.tape, hk.output, hk.size, fun k h1 h2 => hk.block k h1 (by have : k ≠ ga := fun e => h2 (by rw [e]; rfl); omega)⟩
    have D6 := Lib.hid (Dfr.order D5.out (Kept.refl _ _ _) gr ho)
    have BG := D5.out.blk.off (Off.app D5.out.o gr) (by rfl)
    have OF6 : Hid (Off offR w (w6.setCell ⟨g, 2, none⟩ (.slice (some ⟨ga, 0, none⟩) (hs.eraseIdx i).length d'))) := (OF5.out.trans ((Off.app D5.out.o gr).weak offR_h)).trans ((Off.set_ BG 2 _).weak offR_d)
    have L6 : Hid (Below lo w (w6.setCell ⟨g, 2, none⟩ (.slice (some ⟨ga, 0, none⟩) (hs.eraseIdx i).length d'))) := (Below.app L5.out hlo D5.out.o (Nat.le_refl _) gr).setCell D5.out.glo _
    have v2 : w6.cell? ⟨g, 2, none⟩ = some (.slice (some ⟨ga, 0, none⟩) hs.length c3) := BG.cell 2
    have vf := BG.frozen 2
    have vl := BG.lt
    clear hys ho hk gr BG CD
    go_wp2_with fail
    go_ret
    exact ⟨rfl, E1, k1, E2, k2, _, d', by rw [← HT'.out]; exact D6.out, L6.out, OF6.out⟩
end Go.Proofs.Ytnnbfcmbcjkpoaa
