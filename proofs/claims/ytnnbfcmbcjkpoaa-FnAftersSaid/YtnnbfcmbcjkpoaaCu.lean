/- The program's shown: the functions as Afters; condition: the functions are in memory as Dfr says, their handles differ, and no node is negative. -/
import Derived.Test.YtnnbfcmbcjkpoaaCt
namespace Go.Proofs.Ytnnbfcmbcjkpoaa
open Go.RowKit Go.Sort

theorem AtH.of_nodup {ps : List (Aft × Nat)} (hn : (ps.map fun p => hnd p.1).Nodup) {i : Nat} (hi : i < ps.length) : AtH ps (hnd ps[i].1) i := by
  refine ⟨hi, rfl, fun j hj e => ?_⟩
  have := List.pairwise_iff_getElem.1 hn j i (by simp; omega) (by simpa using hi) hj
  simp only [List.getElem_map] at this
  exact this e
theorem af_cells {w : World} {g t : Nat} {x : Aft} (h : Blk w g t (afC x)) : ∀ j u, (afR.flat [x])[j]? = some u → w.cell? ((⟨g, 0, none⟩ : Addr).add j) = some u := by
  intro j u hu
  have e : (⟨g, 0, none⟩ : Addr).add j = ⟨g, j, none⟩ := by unfold Addr.add; split <;> simp_all
  rw [e, h.cell j]
  simpa [afC, Rec.flat, afR] using hu

set_option maxHeartbeats 3200000 in
set_option maxRecDepth 100000 in
theorem shown_any {w : World} {lo g m c1 c2 c3 : Nat} {A1 A2 A3 : Option Addr} {t : Slt} {ps : List (Aft × Nat)} (h : Dfr w lo g m A1 c1 A2 c2 A3 c3 t (ps.map fun p => hnd p.1) ps) (hn : (ps.map fun p => hnd p.1).Nodup) (hp : ∀ p ∈ ps, 0 ≤ p.1.node) (hl : ps.length ≤ 1000) (hlo : lo ≤ w.heap.size) :
    Calls Try.prog 36 #[.pointer (some ⟨g, 0, none⟩)] w fun e w' => ∃ z, e = .returned z ∧ OwnAs w' lo w'.heap.size z ⟨t, ps.map Prod.fst⟩ ∧ Kept 0 0 w w' := by
  obtain ⟨W, hW⟩ : ∃ W, W = (w.alloc (.cells #[.slice none 0 0, .slice none 0 0, .slice none 0 0] 34)).alloc (.cells #[.slice A1 t.ages.length c1, .slice A2 t.used.length c2, .slice none 0 0] 34) := ⟨_, rfl⟩
  have KW : Hid (Kept 0 0 w W) := by show Kept _ _ _ _; rw [hW]; exact (Kept.alloc0 _ _).alloc _
  have B0 : Hid (Blk W w.heap.size 34 #[.slice none 0 0, .slice none 0 0, .slice none 0 0]) := by show Blk _ _ _ _; rw [hW]; exact (Blk.new _ _ _).alloc _
  have B1 : Hid (Blk W (w.heap.size + 1) 34 #[.slice A1 t.ages.length c1, .slice A2 t.used.length c2, .slice none 0 0]) := by show Blk _ _ _ _; rw [hW]; have := Blk.new (w.alloc (.cells #[.slice none 0 0, .slice none 0 0, .slice none 0 0] 34)) 34 #[.slice A1 t.ages.length c1, .slice A2 t.used.length c2, .slice none 0 0]; simpa using this
  have H := Lib.hid h
  have HN := Lib.hid hn
  have HP := Lib.hid hp
  have HW := Lib.hid hW
  obtain ⟨n, hnn⟩ : ∃ n, n = ps.length := ⟨_, rfl⟩
  have x0 : w.cell? ⟨g, 0, none⟩ = some (.slice A1 t.ages.length c1) := h.blk.cell 0
  have x1 : w.cell? ⟨g, 1, none⟩ = some (.slice A2 t.used.length c2) := h.blk.cell 1
  have gw := h.blk.lt
  have HL : Hid ((ps.map fun p => hnd p.1).length = ps.length) := by show _ = _; simp
  have zW : w.heap.size + 2 ≤ W.heap.size := by rw [hW]; simp
  clear h hn hp hW hnn
  go_enter Try.func36, Try.ntmps36
  go_upto_region 2 with fail
  rw [← HW.out]
  have y2 : W.cell? ⟨g, 2, none⟩ = some (.slice A3 ps.length c3) := by have := (H.out.kept KW.out).blk.cell 2; rw [HL.out] at this; exact this
  clear x0 x1
  go_wp2_with fail
  go_loopw [16] (fun i wr => ∃ (k : Nat) (E : Option Addr) (e : Nat), k ≤ ps.length ∧ i = .int .i64 k ∧ Hid (Kept 0 0 w wr) ∧ Hid (Blk wr (w.heap.size + 1) 34 #[.slice A1 t.ages.length c1, .slice A2 t.used.length c2, .slice E k e]) ∧ Hid (wr.ownsRow w.heap.size 42 5 (.slice E k e) k (afR.flat ((ps.map Prod.fst).take k))) ∧ Hid (Blk wr w.heap.size 34 #[.slice none 0 0, .slice none 0 0, .slice none 0 0])) (fun i _ => ps.length - (intOf i).toNat)
  case atStart => exact ⟨0, none, 0, Nat.zero_le _, rfl, KW, B1, Lib.hid (World.ownsRow_nil _ _ _ _), B0⟩
  case round =>
    clear KW B0 B1 HW y2 zW
    obtain ⟨k, E, e, hk, rfl, HK, HB, HO, HR⟩ := hrel
    by_cases hlt : k < ps.length
    · have i1 : (k : Int) < (ps.length : Int) := by omega
      have HH := Lib.hid (H.out.kept HK.out)
      have ek : (ps.map fun p => hnd p.1)[k]'(by simpa using hlt) = hnd ps[k].1 := by simp
      obtain ⟨ad, ea, _, k0, k1⟩ := ((OwnZ.rd (R := hdR) HH.out.row).2).hd (k := k) (by simpa using hlt)
      rw [ek] at k0 k1
      subst ea
      have CF : Hid (∀ X, Kept 0 0 wr X → Calls Try.prog 37 #[.pointer (some ⟨g, 0, none⟩), hkey (hnd ps[k].1)] X fun e w' => e = .returned (.agg (afC ps[k].1)) ∧ Kept 0 0 X w') := fun X hX => find_any (HH.out.kept hX) _ k (AtH.of_nodup HN.out hlt).key hlt (HP.out _ (List.getElem_mem hlt))
      have EK : Hid ((ps.map Prod.fst).take (k + 1) = (ps.map Prod.fst).take k ++ [ps[k].1]) := by show _ = _; rw [List.take_succ_eq_append_getElem (by simpa using hlt)]; simp
      obtain ⟨x, hx⟩ : ∃ x, x = ps[k].1 := ⟨_, rfl⟩
      rw [← hx] at k0 k1 CF EK
      simp only [hkey, hnd, afC] at CF k0 k1
      obtain ⟨V, hV⟩ : ∃ V, V = wr.alloc (.cells #[.int .i64 x.slot, .int .i64 x.age] 40) := ⟨_, rfl⟩
      have KV : Hid (Kept 0 0 wr V) := by show Kept _ _ _ _; rw [hV]; exact Kept.alloc0 _ _
      have BV : Hid (Blk V wr.heap.size 40 #[.int .i64 x.slot, .int .i64 x.age]) := by show Blk _ _ _ _; rw [hV]; exact Blk.new _ _ _
      have SV := Lib.hid (HB.out.kept KV.out (.inl (Nat.le_refl _)))
      have OV := Lib.hid (row_kept HO.out KV.out)
      have HV := Lib.hid hV
      have zk := HK.out.size
      have zV := KV.out.size
      clear hx hV ek
      go_upto_region 5 with fail
      rw [← HV.out]
      have v0 : V.cell? ⟨wr.heap.size, 0, none⟩ = some (.int .i64 x.slot) := BV.out.cell 0
      have v1 : V.cell? ⟨wr.heap.size, 1, none⟩ = some (.int .i64 x.age) := BV.out.cell 1
      have s2 : V.cell? ⟨w.heap.size + 1, 2, none⟩ = some (.slice E k e) := SV.out.cell 2
      have zs := SV.out.lt
      have zb := BV.out.lt
      clear HV k0 k1
      have XL : ((ps.map Prod.fst).take k).length = k := by simp; omega
      obtain ⟨xs, hxs⟩ : ∃ xs, xs = (ps.map Prod.fst).take k := ⟨_, rfl⟩
      rw [← hxs] at EK OV XL
      have HXS := Lib.hid hxs
      have XX := Lib.hid XL
      have HT := Lib.hid afSlice
      clear hxs XL
      go_region_law (first
        | (go_simp
           go_at_call 37
           refine (CF.out _ (KV.out.trans (Kept.refl 0 0 V).drew)).mono ?_
           rintro e3 w3 ⟨rfl, hk3⟩
           have K3 : Hid (Kept 0 0 V w3) := (Kept.refl 0 0 V).drew.trans hk3
           have KZ : Hid (Kept 0 0 V (w3.alloc (.cells (afC x) 42))) := K3.out.alloc _
           have S3 := SV.out.kept K3.out (.inl (Nat.le_refl _))
           have t2 := S3.cell 2
           have S4 := SV.out.kept KZ.out (.inl (Nat.le_refl _))
           have t3 := S4.cell 2
           have t4 := S4.lt
           have t5 := K3.out.size
           simp only [List.getElem?_toArray, List.getElem?_cons_succ, List.getElem?_cons_zero] at t2 t3
           unfold afC at t3
           clear hk3 S3 S4)
        | (refine step_app (R := afR) rfl (.tmp 21) (.tmp 25) (by rfl) HT.out w.heap.size E e xs (by rw [XX.out]; rfl) (by rw [XX.out]; exact row_kept OV.out KZ.out) (w3.heap.size + 1) (some ⟨w3.heap.size, 0, none⟩) 1 [x] (by rfl) (by exact ⟨by simp [maxLen], fun _ => ⟨_, rfl, Nat.lt_succ_self _, fun j u hu => af_cells (Blk.new w3 42 (afC x)) j u hu⟩⟩) (by rw [XX.out]; simp [maxLen]; omega) (by rw [XX.out]; simp; omega) (by simp; omega) ?_
           intro D2 d2 w4 hown hgrow hat
           have OZ := row_kept OV.out KZ.out
           have q : Blk w4 (w.heap.size + 1) 34 _ := blk_grown (SV.out.kept KZ.out (.inl (Nat.le_refl _))) hgrow (by rw [← rowAt_eq E k e]; exact row_ne OZ (SV.out.kept KZ.out (.inl (Nat.le_refl _))) (by decide))
           have q0 := q.cell 2
           have q1 := q.frozen 2
           have q2 := q.lt
           simp only [List.getElem?_toArray, List.getElem?_cons_succ, List.getElem?_cons_zero] at q0))
      all_goals (
        have OZ2 := row_kept OV.out KZ.out
        have EL : Hid ((xs ++ [x]).length = k + 1) := by show _ = _; rw [List.length_append, XX.out]; rfl
        obtain ⟨F, hF⟩ : ∃ F, F = w4.setCell ⟨w.heap.size + 1, 2, none⟩ (.slice D2 (xs.length + 1) d2) := ⟨_, rfl⟩
        have e4 : Off (isTy 34) w4 F := by rw [hF]; exact Off.set_ q 2 _
        have OF : Hid (F.ownsRow w.heap.size 42 5 (.slice D2 (k + 1) d2) (k + 1) (afR.flat ((ps.map Prod.fst).take (k + 1)))) := by
          show World.ownsRow _ _ _ _ _ _ _
          rw [EK.out, ← EL.out]
          exact row_off hown e4 (fun _ => rfl)
        have BF : Hid (Blk F (w.heap.size + 1) 34 #[.slice A1 t.ages.length c1, .slice A2 t.used.length c2, .slice D2 (k + 1) d2]) := by
          show Blk _ _ _ _
          rw [hF, XX.out]
          exact q.set_ 2 _
        have RF : Hid (Blk F w.heap.size 34 #[.slice none 0 0, .slice none 0 0, .slice none 0 0]) := by
          show Blk _ _ _ _
          rw [hF]
          exact Blk.far (blk_grown ((HR.out.kept KV.out (.inl (Nat.le_refl _))).kept KZ.out (.inl (Nat.le_refl _))) hgrow (by rw [← rowAt_eq E k e]; exact row_ne OZ2 ((HR.out.kept KV.out (.inl (Nat.le_refl _))).kept KZ.out (.inl (Nat.le_refl _))) (by decide))) (by show w.heap.size ≠ w.heap.size + 1; omega) _
        have KF : Hid (Kept 0 0 w F) := by
          show Kept _ _ _ _
          rw [hF]
          exact (Kept.app ((HK.out.trans KV.out).trans KZ.out) hgrow (fun g hg => (own_row_lo OZ2 g hg).1)).setCell (.inl (by show w.heap.size ≤ w.heap.size + 1; omega)) _
        rw [← hF]
        clear hF e4 hown hgrow hat q q0 q1 q2 OZ OZ2
        go_wp2_with fail
        go_roundw)
      all_goals first
        | exact ⟨k + 1, D2, d2, by omega, by go_num, KF, BF, OF, RF⟩
        | (simp [intOf]; omega)
    · have hkn : k = ps.length := by omega
      subst hkn
      have c0 := HB.out.cell 0
      have c1' := HB.out.cell 1
      have c2' := HB.out.cell 2
      have r0 := HR.out.cell 0
      have r1 := HR.out.cell 1
      have r2 := HR.out.cell 2
      have f0 := HR.out.frozen 0
      have f1 := HR.out.frozen 1
      have f2 := HR.out.frozen 2
      simp only [List.getElem?_toArray, List.getElem?_cons_succ, List.getElem?_cons_zero] at c0 c1' c2' r0 r1 r2
      obtain ⟨F, hF⟩ : ∃ F, F = ((wr.setCell ⟨w.heap.size, 0, none⟩ (.slice A1 t.ages.length c1)).setCell ⟨w.heap.size, 1, none⟩ (.slice A2 t.used.length c2)).setCell ⟨w.heap.size, 2, none⟩ (.slice E ps.length e) := ⟨_, rfl⟩
      have b1 := HR.out.set_ 0 (.slice A1 t.ages.length c1)
      have b2 := b1.set_ 1 (.slice A2 t.used.length c2)
      have oF : Off (isTy 34) wr F := by rw [hF]; exact ((Off.set_ HR.out 0 _).trans (Off.set_ b1 1 _)).trans (Off.set_ b2 2 _)
      have BF : Blk F w.heap.size 34 #[.slice A1 t.ages.length c1, .slice A2 t.used.length c2, .slice E ps.length e] := by rw [hF]; simpa using b2.set_ 2 (.slice E ps.length e)
      have KF : Hid (Kept 0 0 w F) := by show Kept _ _ _ _; rw [hF]; exact ((HK.out.setCell (.inl (Nat.le_refl _)) _).setCell (.inl (Nat.le_refl _)) _).setCell (.inl (Nat.le_refl _)) _
      have HH := H.out.kept HK.out
      have zF : wr.heap.size = F.heap.size := by rw [hF]; simp [World.setCell]
      have RES : Hid (OwnAs F lo F.heap.size (.agg #[.slice A1 t.ages.length c1, .slice A2 t.used.length c2, .slice E ps.length e]) ⟨t, ps.map Prod.fst⟩) := by
        have ez : ps.length = (ps.map Prod.fst).length := by simp
        refine ⟨_, _, _, rfl, ⟨A1, c1, rfl, ?_⟩, ⟨A2, c2, rfl, ?_⟩, ⟨E, e, by rw [ez], ?_⟩⟩
        · rw [← zF]; exact HH.i.off oF (fun _ => rfl)
        · rw [← zF]; exact HH.b.off oF (fun _ => rfl)
        · have := row_off HO.out oF (fun _ => rfl)
          rw [List.take_of_length_le (by simp)] at this
          rw [← ez]
          exact (OwnZ.of_row this).wide (by exact hlo) (Nat.le_refl _)
      have F0 : F.cell? ⟨w.heap.size, 0, none⟩ = some (.slice A1 t.ages.length c1) := BF.cell 0
      have F1 : F.cell? ⟨w.heap.size, 1, none⟩ = some (.slice A2 t.used.length c2) := BF.cell 1
      have F2 : F.cell? ⟨w.heap.size, 2, none⟩ = some (.slice E ps.length e) := BF.cell 2
      have HF := Lib.hid hF
      have FF := Lib.hid (And.intro F0 (And.intro F1 F2))
      clear b1 b2 oF BF HH zF hF F0 F1 F2
      go_wp2_with fail
      rw [← HF.out]
      obtain ⟨F0, F1, F2⟩ := FF.out
      refine bodyPost_ret (v := .agg #[.slice A1 t.ages.length c1, .slice A2 t.used.length c2, .slice E ps.length e]) (by simp [results, Try.results36, go_sem, F0, F1, F2]) rfl ⟨_, rfl, RES.out, KF.out⟩
end Go.Proofs.Ytnnbfcmbcjkpoaa
