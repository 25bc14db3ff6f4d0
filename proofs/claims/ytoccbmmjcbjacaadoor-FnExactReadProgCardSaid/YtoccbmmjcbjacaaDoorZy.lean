/- The program's ReadProg: what the text reads as, in new memory; condition: the library's variables hold what its text lays, and the text has at most 4294967280 bytes. -/
import Derived.Test.YtoccbmmjcbjacaaDoorZx
namespace Go.Proofs.YtoccbmmjcbjacaaDoor
open Go.RowKit Go.Sort

theorem own_litNs (w : World) (x : Ins) : (w.alloc (.cells #[.int .i64 x.op, .int .i64 x.a, .int .i64 x.b] 43)).ownsRow w.heap.size 43 3 (.slice (some ⟨w.heap.size, 0, none⟩) 1 1) 1 (nsR.flat [x]) :=
  World.ownsRow_lit w #[.int .i64 x.op, .int .i64 x.a, .int .i64 x.b] 1 (Nat.le_refl _) (by unfold maxLen; omega) rfl
theorem rd_litNs (w : World) (x : Ins) : RdR nsR (w.alloc (.cells #[.int .i64 x.op, .int .i64 x.a, .int .i64 x.b] 43)) (w.heap.size + 1) (some ⟨w.heap.size, 0, none⟩) [x] := by
  have := (OwnZ.rd (R := nsR) (OwnZ.of_row (own_litNs w x))).2
  simpa using this
/-- What the text reads as: the program; nothing where it is refused. -/
def resL (s : List UInt8) : List Ins := (readP s).getD []
theorem resL_nil : resL [] = [] := rfl
/-- The program's own test: the parts are read without checks, and what was read is written again. -/
theorem read_by_show {s : List UInt8} (hs : s ≠ []) {zs : List Ins} (hl : zs.length = (Lib.splitN s [59, 32] 13).length) (hz : ∀ j (hj : j < zs.length) (hj' : j < (Lib.splitN s [59, 32] 13).length), ReadsI (Lib.splitN s [59, 32] 13)[j] zs[j]) :
    (showP zs = s → readP s = some zs) ∧ (showP zs ≠ s → readP s = none) := by
  constructor
  · intro h
    have hp : progB zs = true := by
      cases hp : progB zs with
      | true => rfl
      | false => exfalso; apply hs; rw [← h]; unfold showP; rw [hp]; rfl
    rw [← h]; exact readP_show hp
  · intro h
    cases hr : readP s with
    | none => rfl
    | some l =>
      exfalso
      have hb := readP_back hr
      have hne : l ≠ [] := by
        intro e
        subst e
        exact hs hb.2.symm
      have hsp := splitN_show hb.1 hne
      rw [hb.2] at hsp
      apply h
      have : zs = l := by
        apply List.ext_getElem
        · rw [hl, hsp, List.length_map]
        · intro j h1 h2
          have hj' : j < (Lib.splitN s [59, 32] 13).length := by rw [← hl]; exact h1
          refine hz j h1 hj' l[j] ((progB_iff.1 hb.1).1 _ (List.getElem_mem h2)) ?_
          have := List.getElem_of_eq hsp hj'
          rw [this, List.getElem_map]
      rw [this, hb.2]
set_option maxHeartbeats 3200000 in
theorem implReadP (s : List UInt8) (hs : s.length ≤ 4294967280) (w : World) (he : Env w) :
    Calls Tryd.prog 11 #[.string (bs s)] w fun e w' => ∃ D d, e = .returned (.tuple #[.slice D (resL s).length d, .bool (readP s).isSome]) ∧ OwnZ w' w.heap.size w'.heap.size 43 3 D (resL s).length d (nsR.flat (resL s)) ∧ Kept 0 0 w w' := by
  have HE := Lib.hid he
  have HS := Lib.hid nsSlice
  clear he
  have hb : { data := #[59, 32] } = bs [59, 32] := rfl
  by_cases h0 : s = []
  · subst h0
    have q0 : (bs []).toList.isEmpty = true := by rw [bs_empty, decide_eq_true rfl]
    go_enter Tryd.func11, Tryd.ntmps11
    go_wp2_with fail
    refine bodyPost_ret (v := .tuple #[.slice none 0 0, .bool true]) (by simp [results, Tryd.results11, go_sem]) rfl ⟨none, 0, rfl, ?_, Kept.refl _ _ _⟩
    exact ⟨⟨rfl, .inl ⟨rfl, rfl⟩⟩, by intro ad h; cases h⟩
  have q0 : (bs s).toList.isEmpty = false := by rw [bs_empty, decide_eq_false h0]
  have H0 := Lib.hid h0
  clear h0
  have CS : Hid (Calls Tryd.prog 29 #[.string (bs s), .string (bs [59, 32]), .int .i64 13] w fun e w' => ∃ D d, e = .returned (.slice D (Lib.splitN s [59, 32] 13).length d) ∧ OwnZ w' w.heap.size w'.heap.size 9 1 D (Lib.splitN s [59, 32] 13).length d (sR.flat (Lib.splitN s [59, 32] 13)) ∧ Kept 0 0 w w') := splitN_any s [59, 32] 13 hs (by simp) (by omega) (by omega) w HE.out
  have pl := splitN_len s
  have pm : Hid (∀ p ∈ Lib.splitN s [59, 32] 13, p.length ≤ s.length) := fun p hp => splitK_mem _ _ _ _ hp
  have RS := Lib.hid (fun zs => @read_by_show s H0.out zs)
  obtain ⟨ps, hps⟩ : ∃ ps, ps = Lib.splitN s [59, 32] 13 := ⟨_, rfl⟩
  rw [← hps] at CS pl pm RS
  clear hps
  go_enter Tryd.func11, Tryd.ntmps11
  go_wp2_with fail
  with_reducible refine CS.out.mono ?_
  rintro e w1 ⟨D1, d1, rfl, o1, k1⟩
  have OP := Lib.hid (OwnZ.rd (R := sR) o1).2
  have K1 := Lib.hid k1
  have z1 := k1.size
  have hcap := o1.cap
  unfold maxLen at hcap
  clear o1 k1 CS
  go_wp2_with fail
  go_loopw [4, 12] (fun v i wr => ∃ (k : Nat) (D : Option Addr) (d : Nat) (zs : List Ins), k ≤ ps.length ∧ i = .int .i64 k ∧ v = .slice D zs.length d ∧ Hid (zs.length = k) ∧ Hid (∀ j (hj : j < zs.length) (hj' : j < ps.length), ReadsI ps[j] zs[j]) ∧ Hid (wr.ownsRow w1.heap.size 43 3 (.slice D zs.length d) zs.length (nsR.flat zs)) ∧ Hid (Kept 0 0 w1 wr)) (fun _ i _ => ps.length - (intOf i).toNat)
  case atStart => exact ⟨0, _, _, [], Nat.zero_le _, by rfl, by rfl, by rfl, fun j hj => by simp at hj, ⟨rfl, .inl ⟨rfl, rfl⟩⟩, Kept.refl _ _ _⟩
  case round =>
    obtain ⟨k, D, d, zs, hk, rfl, rfl, ZL, HZ, HO, HK⟩ := hrel
    have zl : zs.length ≤ 13 := by have := ZL.out; omega
    have zk := HK.out.size
    by_cases hlt : k < ps.length
    · obtain ⟨ad, rfl, _, c0⟩ := (OP.out.kept (Nat.le_refl _) HK.out (.inl (Nat.le_refl _))).s hlt
      have i1 : (k : Int) < (ps.length : Int) := by omega
      have hpk := pm.out _ (List.getElem_mem hlt)
      have CI := Lib.hid (insIn_any ps[k] (by omega) wr (HE.out.kept (K1.out.trans HK.out)))
      obtain ⟨x, hx⟩ : ∃ x, x = ps[k] := ⟨_, rfl⟩
      rw [← hx] at c0 CI
      have HX := Lib.hid hx
      clear hx hpk
      go_wp2_with fail
      with_reducible refine CI.out.mono ?_
      rintro e w2 ⟨y, rfl, hy, hk2⟩
      have O2 := Lib.hid (row_kept HO.out hk2)
      have K2 := Lib.hid (HK.out.trans hk2)
      have z2 := hk2.size
      have HZ2 : Hid (∀ j (hj : j < (zs ++ [y]).length) (hj' : j < ps.length), ReadsI ps[j] (zs ++ [y])[j]) := fun j hj hj' => by
        rcases Nat.lt_or_ge j zs.length with h' | h'
        · rw [List.getElem_append_left h']; exact HZ.out j h' hj'
        · have e : j = k := by rw [List.length_append] at hj; have := ZL.out; simp only [List.length_cons, List.length_nil] at hj; omega
          subst e
          rw [List.getElem_append_right h']
          simp only [List.getElem_singleton]
          rw [← HX.out]; exact hy
      clear hy hk2 HO HK c0 CI HZ
      go_wp2_with (at_builtin; go_must (refine wpList_app (R := nsR) rfl (.tmp 16) (.tmp 19) rfl HS.out w1.heap.size D d zs rfl (row_kept O2.out (Kept.alloc0 w2 (.cells #[.int .i64 y.op, .int .i64 y.a, .int .i64 y.b] 43))) (w2.heap.size + 1) (some ⟨w2.heap.size, 0, none⟩) 1 [y] rfl (rd_litNs w2 y) (by simp [maxLen]; omega) (by simp; omega) (by simp; omega) ?_); intro D2 d2 w3 hown hgrow hat)
      have K3 := Lib.hid ((K2.out.alloc (.cells #[.int .i64 y.op, .int .i64 y.a, .int .i64 y.b] 43)).app hgrow (fun g hg => (own_row_lo O2.out g hg).1))
      have O3 := Lib.hid hown
      clear hown hgrow hat O2 K2
      go_roundw
      case rel => exact ⟨k + 1, D2, d2, zs ++ [y], by omega, by go_num, by simp, (by show _ = _; have := ZL.out; simp; omega), HZ2, O3, K3⟩
      case measure => simp [intOf]; omega
    · have i1 : ¬ (k : Int) < (ps.length : Int) := by omega
      have RZ := Lib.hid (RS.out zs (by have := ZL.out; omega) HZ.out)
      have OZ : Hid (OwnZ wr w1.heap.size wr.heap.size 43 3 D zs.length d (nsR.flat zs)) := OwnZ.of_row HO.out
      have CP := Lib.hid (implShowP zs D d wr.heap.size wr (Nat.le_refl _) (OwnZ.rd (R := nsR) OZ.out).2 (HE.out.kept (K1.out.trans HK.out)).pow)
      go_wp2_with fail
      with_reducible refine CP.out.mono ?_
      rintro e w2 ⟨rfl, hk2⟩
      have O2 := Lib.hid (row_kept HO.out hk2)
      have K2 := Lib.hid (K1.out.trans (HK.out.trans hk2))
      have z2 := hk2.size
      clear hk2 CP HO HK HZ OZ
      obtain ⟨b1, hb1⟩ : ∃ b1, b1 = bs (showP zs) := ⟨_, rfl⟩
      have q : (b1.toList == (bs s).toList) = decide (showP zs = s) := by rw [hb1, bs_list s, bs_eq]
      rw [← hb1]
      clear hb1
      by_cases hsh : showP zs = s
      · rw [decide_eq_true hsh] at q
        have ER := Lib.hid (RZ.out.1 hsh)
        clear hsh RZ
        go_wp2_with fail
        have e1 : resL s = zs := by unfold resL; rw [ER.out]; rfl
        refine bodyPost_ret (v := .tuple #[.slice D zs.length d, .bool true]) (by simp [results, Tryd.results11, go_sem]) rfl ⟨D, d, by rw [e1, ER.out]; rfl, ?_, K2.out⟩
        rw [e1]
        exact (OwnZ.of_row O2.out).wide (by omega) (Nat.le_refl _)
      · rw [decide_eq_false hsh] at q
        have ER := Lib.hid (RZ.out.2 hsh)
        clear hsh RZ
        go_wp2_with fail
        have e1 : resL s = [] := by unfold resL; rw [ER.out]; rfl
        refine bodyPost_ret (v := .tuple #[.slice none 0 0, .bool false]) (by simp [results, Tryd.results11, go_sem]) rfl ⟨none, 0, by rw [e1, ER.out]; rfl, ?_, K2.out⟩
        rw [e1]
        exact ⟨⟨rfl, .inl ⟨rfl, rfl⟩⟩, by intro ad h; cases h⟩
end Go.Proofs.YtoccbmmjcbjacaaDoor
