/- The program's insIn: a text of an instruction is read as it, any other text as some instruction; condition: the library's variables hold what its text lays. -/
import Derived.Test.YtoccbmmjcbjacaaDoorZu
import Derived.Test.YtoccbmmjcbjacaaDoorZp
namespace Go.Proofs.YtoccbmmjcbjacaaDoor
open Go.RowKit Go.Sort

/-- What is read where the text is an instruction's. -/
def ReadsI (s : List UInt8) (i : Ins) : Prop := ∀ i', insB i' = true → s = showI i' → i = i'
set_option maxHeartbeats 1600000 in
theorem insIn_any (s : List UInt8) (hs : s.length ≤ 4294967280) (w : World) (he : Env w) : Calls Tryd.prog 30 #[.string (bs s)] w fun e w' => ∃ i : Ins, e = .returned (.agg #[.int .i64 i.op, .int .i64 i.a, .int .i64 i.b]) ∧ ReadsI s i ∧ Kept 0 0 w w' := by
  obtain ⟨W, hW⟩ : ∃ W, W = w.alloc (.cells #[.int .i64 0, .int .i64 0, .int .i64 0] 43) := ⟨_, rfl⟩
  have KW : Hid (Kept 0 0 w W) := by show Kept _ _ _ _; rw [hW]; exact Kept.alloc0 _ _
  have B : Hid (Blk W w.heap.size 43 #[.int .i64 0, .int .i64 0, .int .i64 0]) := by show Blk _ _ _ _; rw [hW]; exact Blk.new _ _ _
  have HW := Lib.hid hW
  clear hW
  have HE := Lib.hid he
  clear he
  obtain ⟨p, hp⟩ : ∃ p, p = Lib.cut s [32] := ⟨_, rfl⟩
  obtain ⟨q, hq⟩ : ∃ q, q = Lib.cut p.2.1 [32] := ⟨_, rfl⟩
  have l1 : p.1.length ≤ s.length ∧ p.2.1.length ≤ s.length := by rw [hp]; exact cut_len s [32]
  have l2 : q.1.length ≤ p.2.1.length ∧ q.2.1.length ≤ p.2.1.length := by rw [hq]; exact cut_len p.2.1 [32]
  have CA := Lib.hid (cut_any s [32] hs W (HE.out.kept KW.out))
  rw [← hp] at CA
  have HP := Lib.hid hp
  have HQ := Lib.hid hq
  clear hp hq
  have hb : { data := #[32] } = bs [32] := rfl
  go_enter Tryd.func30, Tryd.ntmps30
  go_upto_region 1 with fail
  rw [← HW.out]
  go_wp2_with fail
  with_reducible refine CA.out.mono ?_
  rintro e w1 ⟨rfl, hk⟩
  have K1 := Lib.hid (KW.out.trans hk)
  have B1 := Lib.hid (B.out.kept hk (.inl (Nat.le_refl _)))
  have CB := Lib.hid (cut_any p.2.1 [32] (by omega) w1 (HE.out.kept K1.out))
  rw [← HQ.out] at CB
  clear hk CA B
  go_wp2_with fail
  with_reducible refine CB.out.mono ?_
  rintro e w2 ⟨rfl, hk⟩
  have K2 := Lib.hid (K1.out.trans hk)
  have B2 := Lib.hid (B1.out.kept hk (.inl (Nat.le_refl _)))
  clear hk CB B1 K1
  have CO := Lib.hid (opOf_any p.1 w2)
  go_wp2_with fail
  with_reducible refine CO.out.mono ?_
  rintro e w3 ⟨op, rfl, ho, hk⟩
  have K3 := Lib.hid (K2.out.trans hk)
  have B3 := Lib.hid (B2.out.kept hk (.inl (Nat.le_refl _)))
  have HO := Lib.hid ho
  have CC := Lib.hid (opIn_any q.1 (by omega) w3 (HE.out.kept K3.out))
  clear hk ho CO B2 K2
  go_wp2_with fail
  with_reducible refine CC.out.mono ?_
  rintro e w4 ⟨a, rfl, ha1, ha2, ha3, hk⟩
  have K4 := Lib.hid (K3.out.trans hk)
  have B4 := Lib.hid (B3.out.kept hk (.inl (Nat.le_refl _)))
  have HA := Lib.hid (And.intro ha1 ha2)
  have CD := Lib.hid (opIn_any q.2.1 (by omega) w4 (HE.out.kept K4.out))
  clear hk ha1 ha2 ha3 CC B3 K3
  go_wp2_with fail
  with_reducible refine CD.out.mono ?_
  rintro e w5 ⟨b, rfl, hb1, hb2, hb3, hk⟩
  have K5 := Lib.hid (K4.out.trans hk)
  have B5 := Lib.hid (B4.out.kept hk (.inl (Nat.le_refl _)))
  have HBb := Lib.hid (And.intro hb1 (And.intro hb2 hb3))
  clear hk hb1 hb2 hb3 CD B4 K4
  have c0 := ins0 B5.out
  have c1 := ins1 B5.out
  have c2 := ins2 B5.out
  have f0 := B5.out.frozen 0
  have f1 := B5.out.frozen 1
  have f2 := B5.out.frozen 2
  go_wp2_with fail
  have R : ReadsI s ⟨op, a, b⟩ := by
    intro i' hi hsi
    have hpt := parts_show i'
    rw [← hsi, ← HP.out, ← HQ.out] at hpt
    obtain ⟨e1, e2, e3⟩ := hpt
    have ho' := op_lt hi
    have ha' := a_ge hi
    have hb' := b_ge hi
    have x1 := HO.out i'.op.toNat (by omega) e1
    have x2 : a = i'.a := by
      by_cases hm : i'.a < 0
      · have := HA.out.1 (by rw [e2, wordA, if_pos hm])
        omega
      · have hn : q.1 = digs i'.a.toNat := by rw [e2, wordA, if_neg hm, intS, if_neg hm]
        have hne : q.1 ≠ itW := fun e => by
          have : (105 : UInt8) ∈ digs i'.a.toNat := by rw [← hn, e]; decide
          exact digs_no (by decide) _ this
        have := HA.out.2 hne _ (by rw [hn]; exact spells_digs _ (by omega))
        omega
    have x3 : b = i'.b := by
      by_cases ht : twoB i'.op = true
      · rw [if_pos ht] at e3
        have hn : q.2.1 = digs i'.b.toNat := by rw [e3, intS, if_neg (by omega)]
        have hne : q.2.1 ≠ itW := fun e => by
          have : (105 : UInt8) ∈ digs i'.b.toNat := by rw [← hn, e]; decide
          exact digs_no (by decide) _ this
        have := HBb.out.2.1 hne _ (by rw [hn]; exact spells_digs _ (by omega))
        omega
      · rw [if_neg ht] at e3
        have := HBb.out.2.2 e3
        rw [this, b_zero hi (by simpa using ht)]
    cases i'
    simp only at x1 x2 x3 ho'
    rw [x1, x2, x3, Int.toNat_of_nonneg ho'.1]
  have BF := ((B5.out.set_ 0 (.int .i64 op)).set_ 1 (.int .i64 a)).set_ 2 (.int .i64 b)
  have BF' : Blk (((w5.setCell ⟨w.heap.size, 0, none⟩ (.int .i64 op)).setCell ⟨w.heap.size, 1, none⟩ (.int .i64 a)).setCell ⟨w.heap.size, 2, none⟩ (.int .i64 b)) w.heap.size 43 #[.int .i64 op, .int .i64 a, .int .i64 b] := BF
  have g0 := ins0 BF'
  have g1 := ins1 BF'
  have g2 := ins2 BF'
  exact bodyPost_ret (v := .agg #[.int .i64 op, .int .i64 a, .int .i64 b]) (by simp [results, Tryd.results30, go_sem, g0, g1, g2]) rfl ⟨⟨op, a, b⟩, rfl, R, ((K5.out.setCell (.inl (Nat.le_refl _)) _).setCell (.inl (Nat.le_refl _)) _).setCell (.inl (Nat.le_refl _)) _⟩
end Go.Proofs.YtoccbmmjcbjacaaDoor
