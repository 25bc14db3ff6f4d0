/- The program's Forgotten; no condition beyond that the timers can be read. -/
import Derived.Test.YtnphjohmkjoefaaQl
import Derived.Test.YtnphjohmkjoefaaTu
namespace Go.Proofs.Ytnphjohmkjoefaa
open Go.RowKit Go.Sort

theorem MadeA.up {T : Tms} {W w1 V : World} {b d : Nat} {t : PT} {D : Option Addr} {zs : List Tr} (M : MadeA T W w1 b t D d zs) (hk : Kept 0 0 w1 V) : MadeA T W V b t D d zs := ⟨M.ok, M.kept.trans hk, M.alm.kept hk, M.eq, M.pre, M.tok, M.inT⟩
theorem erase_map {α β : Type} (f : α → β) (l : List α) (k : Nat) : (l.eraseIdx k).map f = (l.map f).eraseIdx k := by
  rw [List.eraseIdx_eq_take_drop_succ, List.eraseIdx_eq_take_drop_succ, List.map_append, List.map_take, List.map_drop]
/-- One timer less. -/
theorem Alm.erase {w2 w3 : World} {lo b g d k : Nat} {par : Value} {t : PT} {zs : List Tr} {next : Int} (h : Alm w2 lo b par t (some ⟨g, 0, none⟩) d zs next) (hk : k < zs.length)
    (hrow : w3.ownsRow lo 44 ptR.k (.slice (some ⟨g, 0, none⟩) (zs.length - 1) d) (zs.length - 1) (ptR.flat ((zs.map Tr.p).eraseIdx k))) (kept : Kept g (g + 1) w2 w3) :
    Alm (w3.setCell ⟨b, 1, none⟩ (.slice (some ⟨g, 0, none⟩) (zs.length - 1) d)) lo b par t (some ⟨g, 0, none⟩) d (zs.eraseIdx k) next ∧ Fr lo w2 (w3.setCell ⟨b, 1, none⟩ (.slice (some ⟨g, 0, none⟩) (zs.length - 1) d)) ∧ Beside 44 w2 w3 := by
  obtain ⟨cg, hg⟩ := row_blk h.row (b := g) rfl
  have glo := (own_row_lo h.row g rfl).1
  have s3 : Beside 44 w2 w3 := fun x ty cs hne hb => hb.kept kept (by have := blk_ne hb hg (Ne.symm hne); omega)
  have b3 := s3 _ _ _ (by decide) h.blk
  have s4 := Beside.set_ b3 1 (.slice (some ⟨g, 0, none⟩) (zs.length - 1) d)
  have el : (zs.eraseIdx k).length = zs.length - 1 := by rw [List.length_eraseIdx, if_pos hk]
  refine ⟨⟨?_, ?_, ?_, ?_, (h.lay.beside s3 (by decide)).beside s4 (by decide), h.tnd, h.bnew, ?_, h.tnew⟩, ?_, s3⟩
  · have := b3.set_ 1 (.slice (some ⟨g, 0, none⟩) (zs.length - 1) d)
    rw [el]
    simpa using this
  · rw [el, erase_map]
    exact row_beside hrow s4 (by decide)
  · intro z hz
    exact ((h.tim z (List.mem_of_mem_eraseIdx hz)).beside s3 (by decide) (by decide)).beside s4 (by decide) (by decide)
  · rw [erase_map]
    exact List.Nodup.sublist (List.eraseIdx_sublist _ _) h.nd
  · intro z hz
    exact h.pnew z (List.mem_of_mem_eraseIdx hz)
  · intro K hK hk
    exact (hk.trans2 kept (.inr (Nat.le_trans hK glo))).setCell (.inl (Nat.le_trans hK h.bnew)) _
theorem erase_modify {l : List Tm} {k : Nat} (hk : k < l.length) (f : Tm → Tm) : (l.modify k f).eraseIdx k = l.take k ++ l.drop (k + 1) := by
  rw [modify_set hk, List.eraseIdx_eq_take_drop_succ, List.take_set_of_le (Nat.le_refl _), List.drop_set_of_lt (Nat.lt_succ_self _)]

set_option maxHeartbeats 1600000 in
theorem forget1 {T : Tms} {q : Int} {W w1 : World} {b d k : Nat} {t : PT} {D : Option Addr} {zs : List Tr} (M : MadeA T W w1 b t D d zs) (hq : atL T.list q = some k) (hz : k < zs.length) :
    Calls Try.prog 25 #[toBlk b, toBlk zs[k].p] w1 (ChgPost T W w1 b ⟨withoutL T.heap q, T.list.take k ++ T.list.drop (k + 1), T.next⟩ true) := by
  obtain ⟨hkl, hks⟩ := atL_some hq
  obtain ⟨V, hV⟩ : ∃ V, V = w1.alloc (.cells #[toBlk zs[k].p] 44) := ⟨_, rfl⟩
  have KV : Kept 0 0 w1 V := by rw [hV]; exact Kept.alloc0 _ _
  have BV : Hid (Blk V w1.heap.size 44 #[toBlk zs[k].p]) := by show Blk _ _ _ _; rw [hV]; exact Blk.new _ _ _
  have CO := Lib.hid (offM (M.up KV) hq hz)
  have l64 : zs.length ≤ 64 := by have := M.ok.len; rw [← M.eq] at this; simpa using this
  obtain ⟨g, rfl, hg⟩ : ∃ g, D = some ⟨g, 0, none⟩ ∧ g < w1.heap.size := by
    rcases M.alm.row.2 with ⟨hv, h0⟩ | ⟨g, cap, cur, hv, hb, hh, _⟩
    · omega
    · injection hv with e1 e2 e3
      exact ⟨g, e1, (Array.getElem?_eq_some_iff.1 hh).1⟩
  have FV := Lib.hid (Fr.kept (lo := W.heap.size) KV)
  have HV := Lib.hid hV
  have hmf : ∀ (fn : Fn) (first cap : Array Value) (w : World), (Instr.makeFunc fn first cap).run Try.prog w = .ok (.func fn first cap) w := fun _ _ _ _ => rfl
  clear M hV KV
  go_enter Try.func25, Try.ntmps25
  go_wp2_with fail
  rw [← HV.out]
  with_reducible refine CO.out.mono ?_
  rintro e w2 ⟨rfl, ⟨t2, g2, a2, ls, em, _⟩, fr, rs⟩
  obtain ⟨zs2, hzs⟩ : ∃ zs2, zs2 = zs.set k ⟨zs[k].p, zs[k].e, disarm zs[k].x⟩ := ⟨_, rfl⟩
  rw [← hzs] at a2 em
  have L2 : Hid (zs2.length = zs.length) := by show _ = _; rw [hzs]; simp
  have hz2 : k < zs2.length := by have := L2.out; omega
  have l2 : zs2.length ≤ 64 := by have := L2.out; omega
  have pk : (zs2.map Tr.p)[k]'(by simpa using hz2) = zs[k].p := by simp [hzs]
  have B2 := Lib.hid (rs _ _ _ (by decide) (by decide) (by decide) BV.out)
  obtain ⟨ps, hps⟩ : ∃ ps, ps = zs2.map Tr.p := ⟨_, rfl⟩
  have PL : Hid (ps.length = zs2.length) := by show _ = _; rw [hps]; simp
  have hkp : k < ps.length := by have := PL.out; omega
  have pk' : ps[k] = zs[k].p := by simp only [hps]; exact pk
  have row := a2.row
  rw [← hps, ← PL.out] at row
  have CD := Lib.hid (deleteF_any w2 W.heap.size g d k w1.heap.size ps row (by have := PL.out; omega) hkp (fun p hp => by rw [hps] at hp; obtain ⟨z, hz, rfl⟩ := List.mem_map.1 hp; exact ⟨_, (a2.tim z hz).1⟩) (by rw [hps]; exact a2.nd) (by rw [pk']; exact B2.out) (by omega))
  have ab := a2.blk
  rw [← PL.out] at ab
  have a1 := bx1 ab
  have A2 := Lib.hid a2
  have LS := Lib.hid ls
  have EM := Lib.hid em
  have FR := Lib.hid (FV.out.trans fr)
  have HP := Lib.hid hps
  clear CO a2 ls em fr rs hzs pk hps row ab pk'
  go_wp2_with fail
  with_reducible refine CD.out.mono ?_
  rintro e w3 ⟨rfl, r3, k3⟩
  have AE := Lib.hid (A2.out.erase hz2 (w3 := w3) (by rw [← HP.out, ← PL.out]; exact r3) k3)
  have b3 := AE.out.2.2 _ _ _ (by decide) A2.out.blk
  have c1 := bx1 b3
  have f1 := b3.frozen 1
  have EL : Hid (ps.length - 1 = zs2.length - 1) := by show _ = _; rw [PL.out]
  rw [EL.out]
  clear r3 k3 CD b3 a1
  go_wp2_with fail
  go_ret
  refine ⟨rfl, _, t2, _, d, _, AE.out.1, ?_, (by have := LS.out.size; omega), ?_, FR.out.trans AE.out.2.1⟩
  · rw [List.length_eraseIdx, if_pos hz2]; omega
  · rw [LS.out.pre, erase_map, EM.out, erase_modify hkl]
theorem chgL_forget (T : Tms) (q : Int) : chgL T q (fun k => ⟨withoutL T.heap q, T.list.take k ++ T.list.drop (k + 1), T.next⟩) = forgetL T q := by
  unfold chgL forgetL forgetT
  cases timersOkB T
  · rfl
  · cases atL T.list q <;> rfl
theorem chgB_some (T : Tms) (q : Int) : chgB T q (fun _ => true) = forgetB T q := by
  unfold chgB forgetB
  cases atL T.list q <;> rfl
theorem changedForget (T : Tms) (q : Int) (v : Value) (w : World) (h : RdM w w.heap.size v T) :
    Calls Try.prog 17 #[v, .int .i64 q, .func (.func 25) #[] #[]] w fun e w' => ∃ u, e = .returned (.tuple #[u, .bool (forgetB T q)]) ∧ OwnM w' w.heap.size w'.heap.size u (forgetL T q) ∧ Kept 0 0 w w' := by
  have := changedF T q (fun k => ⟨withoutL T.heap q, T.list.take k ++ T.list.drop (k + 1), T.next⟩) (fun _ => true) v w h (fun W w1 b t D d zs k _ M hq hz => forget1 M hq hz)
  rw [chgL_forget, chgB_some] at this
  exact this
set_option maxHeartbeats 800000 in
theorem implForgotten : DoesMI 8 forgetL forgetB := by
  intro T q v w h
  obtain ⟨hv, lv, rfl, ⟨A1, c1, rfl, s2⟩, ⟨A2, c2, rfl, s3⟩⟩ := h
  have H : Hid (RdM w w.heap.size (.agg #[.slice A1 T.heap.length c1, .slice A2 T.list.length c2, .int .i64 T.next]) T) := ⟨_, _, rfl, ⟨A1, c1, rfl, s2⟩, ⟨A2, c2, rfl, s3⟩⟩
  obtain ⟨W, hW⟩ : ∃ W, W = (w.alloc (.cells #[.slice A1 T.heap.length c1, .slice A2 T.list.length c2, .int .i64 T.next] 27)).alloc (.cells #[.slice none 0 0, .slice none 0 0, .int .i64 0] 27) := ⟨_, rfl⟩
  have KV : Hid (Kept 0 0 w W) := by show Kept _ _ _ _; rw [hW]; exact (Kept.alloc0 _ _).alloc _
  have R0 : Hid (Blk W (w.heap.size + 1) 27 #[.slice none 0 0, .slice none 0 0, .int .i64 0]) := by show Blk _ _ _ _; rw [hW]; exact blk2_new _ _ _ _
  have zW : w.heap.size + 2 ≤ W.heap.size := by rw [hW]; simp
  have CC := Lib.hid (changedForget T q _ W (H.out.up KV.out))
  have HW := Lib.hid hW
  have hmf : ∀ (fn : Fn) (first cap : Array Value) (w : World), (Instr.makeFunc fn first cap).run Try.prog w = .ok (.func fn first cap) w := fun _ _ _ _ => rfl
  clear s2 s3 hW
  go_enter Try.func8, Try.ntmps8
  go_wp2_with fail
  rw [← HW.out]
  with_reducible refine CC.out.mono ?_
  rintro e w9 ⟨u, rfl, ⟨hv, lv, rfl, ⟨D1, d1, rfl, o1⟩, ⟨D2, d2, rfl, o2⟩⟩, hk⟩
  obtain ⟨Tn, hTn⟩ : ∃ Tn, Tn = forgetL T q := ⟨_, rfl⟩
  obtain ⟨bn, hbn⟩ : ∃ bn, bn = forgetB T q := ⟨_, rfl⟩
  rw [← hTn] at o1 o2 ⊢
  rw [← hbn]
  have O1 := Lib.hid o1
  have O2 := Lib.hid o2
  have K9 := Lib.hid (KV.out.trans hk)
  have R9 := Lib.hid (R0.out.kept hk (.inl (Nat.le_refl _)))
  have y9 := hk.size
  have HT := Lib.hid hTn
  have HB := Lib.hid hbn
  clear o1 o2 hk CC hTn hbn
  have r0 := bx0 R9.out
  have r1 := bx1 R9.out
  have r2 := bx2 R9.out
  have f0 := R9.out.frozen 0
  have f1 := R9.out.frozen 1
  have f2 := R9.out.frozen 2
  have BF := blk3 R9.out (.slice D1 Tn.heap.length d1) (.slice D2 Tn.list.length d2) (.int .i64 Tn.next)
  have F0 := bx0 BF
  have F1 := bx1 BF
  have F2 := bx2 BF
  have KF := kept3 w9 (w.heap.size + 1) (.slice D1 Tn.heap.length d1) (.slice D2 Tn.list.length d2) (.int .i64 Tn.next)
  have KK := Lib.hid KF
  have zF := KF.size
  have FF := Lib.hid (And.intro F0 (And.intro F1 F2))
  clear BF KF F0 F1 F2
  go_wp2_with fail
  obtain ⟨F0, F1, F2⟩ := FF.out
  refine bodyPost_ret (v := .tuple #[.agg #[.slice D1 Tn.heap.length d1, .slice D2 Tn.list.length d2, .int .i64 Tn.next], .bool bn]) (by simp [results, Try.results8, go_sem, F0, F1, F2]) rfl ⟨_, ret_ub HB.out, ?_, K9.out.trans2 KK.out (.inr (by omega))⟩
  rw [← HT.out]
  exact ⟨_, _, rfl, ⟨D1, d1, rfl, (O1.out.kept KK.out (.inr (.inr (by omega)))).wide (by omega) zF⟩, ⟨D2, d2, rfl, (O2.out.kept KK.out (.inr (.inr (by omega)))).wide (by omega) zF⟩⟩
end Go.Proofs.Ytnphjohmkjoefaa
