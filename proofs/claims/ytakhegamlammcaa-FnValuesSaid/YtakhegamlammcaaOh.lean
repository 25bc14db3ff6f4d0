/- The law of values returns true for every code of at most 4096 bytes; condition: the code can be read. -/
import Derived.Test.YtakhegamlammcaaDf
import Derived.Test.YtakhegamlammcaaNg
import Derived.Test.YtakhegamlammcaaOa
import Derived.Test.YtakhegamlammcaaOg
namespace Go.Proofs.Ytakhegamlammcaa
open Go.RowKit Go.Sort

set_option maxHeartbeats 3200000 in
set_option maxRecDepth 100000 in
theorem lawValues_small (xs : List Int) (A : Option Addr) (c : Nat) (w : World) (h : Rd (Value.int .u8) w w.heap.size A xs) (hx : ∀ x ∈ xs, 0 ≤ x ∧ x ≤ 255) (hl : xs.length ≤ 4096) :
    Calls Try.prog 4 #[.slice A xs.length c] w fun e w' => e = .returned (.bool true) ∧ Kept 0 0 w w' := by
  have hm := h.1
  have hbig : decide (4096 < xs.length) = false := by simpa using hl
  have H := Lib.hid h
  have HX := Lib.hid hx
  clear h hx
  go_enter Try.func4, Try.ntmps4
  go_wp2_with fail
  with_reducible refine (big_any _ _ _ _ hm).mono ?_
  rintro e w' ⟨rfl, rfl⟩
  rw [hbig]
  clear hbig
  go_wp2_with fail
  with_reducible refine (drawValueIn_any _ _ _ _ H.out HX.out hl).mono ?_
  rintro e w1 ⟨v, t, up, key, rfl, tl, k0, k1, ho, hk⟩
  have O1 := Lib.hid ho
  have K1 := Lib.hid hk
  have z1 := hk.size
  obtain ⟨D, d, ev, -⟩ := ho
  subst ev
  clear hk H HX hm hl
  go_wp2_with fail
  with_reducible refine (tree5_any t _ _ (O1.out.rdW (Nat.le_refl _))).mono ?_
  rintro e w2 ⟨rfl, hk⟩
  have O2 := Lib.hid (O1.out.kept hk (.inl (Nat.le_refl _)))
  have K2 := Lib.hid (K1.out.trans hk)
  have z2 := hk.size
  clear hk O1 K1
  by_cases q : treeB t = true ∧ 0 ≤ up ∧ up < t.length ∧ 1 ≤ key ∧ t.length ≤ 57
  · obtain ⟨q1, q2, q3, q4, q5⟩ := q
    have o := treeB_true.1 q1
    rw [q1]
    obtain ⟨a1, a2, oa⟩ := grownA o q5 q2 q3 q4 k1
    obtain ⟨b1, b2, ob⟩ := grownB o q5 q2 q3 q4 k1
    obtain ⟨c1, c2, oc⟩ := grownC o q5 q2 q3 q4 k1
    have vv := valsC o q5 q2 q3 q4 k1
    have i1 : ¬ up < 0 := by omega
    have i2 : ¬ ((t.length : Int) ≤ up) := by omega
    have i3 : ¬ key < 1 := by omega
    have i4 : ¬ ((57 : Int) < (t.length : Int)) := by omega
    have A1 := Lib.hid a1
    have A2 := Lib.hid a2
    have B1 := Lib.hid b1
    have B2 := Lib.hid b2
    have C1 := Lib.hid c1
    have C2 := Lib.hid c2
    have VV := Lib.hid vv
    clear a1 a2 b1 b2 c1 c2 vv oa ob oc o q1
    obtain ⟨ta, hta⟩ : ∃ ta, ta = t ++ [nA up key] := ⟨_, rfl⟩
    rw [← hta] at A1 B1 B2 C1 C2 VV
    obtain ⟨tb, htb⟩ : ∃ tb, tb = ta ++ [nB t.length] := ⟨_, rfl⟩
    rw [← htb] at B1 C1 C2 VV
    obtain ⟨tc, htc⟩ : ∃ tc, tc = tb ++ [nC (t.length + 1) (key + 1)] := ⟨_, rfl⟩
    rw [← htc] at C1 VV
    clear hta htb htc
    have qk : key % 9 + 1 = key + 1 := by omega
    go_wp2_with fail
    have CN := Lib.hid (implGrown t (nA up key) _ w2 (O2.out.rdW (by omega)))
    rw [A1.out, A2.out] at CN
    refine CN.out.mono ?_
    rintro e w3 ⟨uA, rfl, ho, hk⟩
    have P2 := Lib.hid (O2.out.kept hk (.inl (Nat.le_refl _)))
    clear O2
    have O2 := P2
    clear P2
    have OA := Lib.hid ho
    have K3 := Lib.hid (K2.out.trans hk)
    have z3 := hk.size
    clear hk CN K2 ho
    go_wp2_with fail
    have CN := Lib.hid (implGrown ta (nB t.length) _ w3 (OA.out.rdW (by omega)))
    rw [B1.out, B2.out] at CN
    refine CN.out.mono ?_
    rintro e w4 ⟨uB, rfl, ho, hk⟩
    have P2 := Lib.hid (O2.out.kept hk (.inl (Nat.le_refl _)))
    clear O2
    have O2 := P2
    clear P2
    have PA := Lib.hid (OA.out.kept hk (.inl (Nat.le_refl _)))
    clear OA
    have OA := PA
    clear PA
    have OB := Lib.hid ho
    have K4 := Lib.hid (K3.out.trans hk)
    have z4 := hk.size
    clear hk CN K3 ho
    go_wp2_with fail
    have CN := Lib.hid (implGrown tb (nC (t.length + 1) (key + 1)) _ w4 (OB.out.rdW (by omega)))
    rw [C1.out, C2.out] at CN
    refine CN.out.mono ?_
    rintro e w5 ⟨uC, rfl, ho, hk⟩
    have P2 := Lib.hid (O2.out.kept hk (.inl (Nat.le_refl _)))
    clear O2
    have O2 := P2
    clear P2
    have PA := Lib.hid (OA.out.kept hk (.inl (Nat.le_refl _)))
    clear OA
    have OA := PA
    clear PA
    have PB := Lib.hid (OB.out.kept hk (.inl (Nat.le_refl _)))
    clear OB
    have OB := PB
    clear PB
    have OC := Lib.hid ho
    have K5 := Lib.hid (K4.out.trans hk)
    have z5 := hk.size
    clear hk CN K4 ho
    go_wp2_with fail
    have CN := Lib.hid (implVal tc (t.length + 2) key _ w5 (OC.out.rdW (by omega)))
    rw [VV.out.1, VV.out.2.1] at CN
    refine CN.out.mono ?_
    rintro e w6 ⟨rfl, hk⟩
    have P2 := Lib.hid (O2.out.kept hk (.inl (Nat.le_refl _)))
    clear O2
    have O2 := P2
    clear P2
    have PA := Lib.hid (OA.out.kept hk (.inl (Nat.le_refl _)))
    clear OA
    have OA := PA
    clear PA
    have PB := Lib.hid (OB.out.kept hk (.inl (Nat.le_refl _)))
    clear OB
    have OB := PB
    clear PB
    have PC := Lib.hid (OC.out.kept hk (.inl (Nat.le_refl _)))
    clear OC
    have OC := PC
    clear PC
    have K6 := Lib.hid (K5.out.trans hk)
    have z6 := hk.size
    clear hk CN K5
    go_wp2_with fail
    have CN := Lib.hid (implVal tc (t.length + 2) (key + 1) _ w6 (OC.out.rdW (by omega)))
    rw [VV.out.2.2.1, VV.out.2.2.2.1] at CN
    refine CN.out.mono ?_
    rintro e w7 ⟨rfl, hk⟩
    have P2 := Lib.hid (O2.out.kept hk (.inl (Nat.le_refl _)))
    clear O2
    have O2 := P2
    clear P2
    have PA := Lib.hid (OA.out.kept hk (.inl (Nat.le_refl _)))
    clear OA
    have OA := PA
    clear PA
    have PB := Lib.hid (OB.out.kept hk (.inl (Nat.le_refl _)))
    clear OB
    have OB := PB
    clear PB
    have PC := Lib.hid (OC.out.kept hk (.inl (Nat.le_refl _)))
    clear OC
    have OC := PC
    clear PC
    have K7 := Lib.hid (K6.out.trans hk)
    have z7 := hk.size
    clear hk CN K6
    go_wp2_with fail
    have CN := Lib.hid (implVal t up key _ w7 (O2.out.rdW (by omega)))
    refine CN.out.mono ?_
    rintro e w8 ⟨rfl, hk⟩
    have P2 := Lib.hid (O2.out.kept hk (.inl (Nat.le_refl _)))
    clear O2
    have O2 := P2
    clear P2
    have PA := Lib.hid (OA.out.kept hk (.inl (Nat.le_refl _)))
    clear OA
    have OA := PA
    clear PA
    have PB := Lib.hid (OB.out.kept hk (.inl (Nat.le_refl _)))
    clear OB
    have OB := PB
    clear PB
    have PC := Lib.hid (OC.out.kept hk (.inl (Nat.le_refl _)))
    clear OC
    have OC := PC
    clear PC
    have K8 := Lib.hid (K7.out.trans hk)
    have z8 := hk.size
    clear hk CN K7
    go_wp2_with fail
    have CN := Lib.hid (implVal tc up key _ w8 (OC.out.rdW (by omega)))
    rw [VV.out.2.2.2.2.1, VV.out.2.2.2.2.2.1] at CN
    refine CN.out.mono ?_
    rintro e w9 ⟨rfl, hk⟩
    have P2 := Lib.hid (O2.out.kept hk (.inl (Nat.le_refl _)))
    clear O2
    have O2 := P2
    clear P2
    have PA := Lib.hid (OA.out.kept hk (.inl (Nat.le_refl _)))
    clear OA
    have OA := PA
    clear PA
    have PB := Lib.hid (OB.out.kept hk (.inl (Nat.le_refl _)))
    clear OB
    have OB := PB
    clear PB
    have PC := Lib.hid (OC.out.kept hk (.inl (Nat.le_refl _)))
    clear OC
    have OC := PC
    clear PC
    have K9 := Lib.hid (K8.out.trans hk)
    have z9 := hk.size
    clear hk CN K8
    obtain ⟨vi, hvi⟩ : ∃ vi, vi = valI t up key := ⟨_, rfl⟩
    obtain ⟨vb, hvb⟩ : ∃ vb, vb = valB t up key := ⟨_, rfl⟩
    rw [← hvi, ← hvb]
    clear hvi hvb
    have e1 : (vb == vb) = true := by simp
    go_wp2_with fail
    have CN := Lib.hid (implTreeOk tc _ w9 (OC.out.rdW (by omega)))
    rw [VV.out.2.2.2.2.2.2] at CN
    refine CN.out.mono ?_
    rintro e w10 ⟨rfl, hk⟩
    have P2 := Lib.hid (O2.out.kept hk (.inl (Nat.le_refl _)))
    clear O2
    have O2 := P2
    clear P2
    have PA := Lib.hid (OA.out.kept hk (.inl (Nat.le_refl _)))
    clear OA
    have OA := PA
    clear PA
    have PB := Lib.hid (OB.out.kept hk (.inl (Nat.le_refl _)))
    clear OB
    have OB := PB
    clear PB
    have PC := Lib.hid (OC.out.kept hk (.inl (Nat.le_refl _)))
    clear OC
    have OC := PC
    clear PC
    have K10 := Lib.hid (K9.out.trans hk)
    have z10 := hk.size
    clear hk CN K9
    go_wp2
    go_ret
    exact ⟨rfl, K10.out⟩
  · cases q1 : treeB t
    · clear q q1
      go_wp2_with fail
      with_reducible refine (implVal t up key _ w2 (O2.out.rdW (by omega))).mono ?_
      rintro e w3 ⟨rfl, hk⟩
      have O3 := Lib.hid (O2.out.kept hk (.inl (Nat.le_refl _)))
      have K3 := Lib.hid (K2.out.trans hk)
      have z3 := hk.size
      clear hk O2 K2
      go_wp2_with fail
      with_reducible refine (val5_any t up key _ w3 (O3.out.rdW (by omega))).mono ?_
      rintro e w4 ⟨rfl, hk⟩
      have K4 := Lib.hid (K3.out.trans hk)
      clear hk O3 K3
      obtain ⟨vi, hvi⟩ : ∃ vi, vi = valI t up key := ⟨_, rfl⟩
      obtain ⟨vb, hvb⟩ : ∃ vb, vb = valB t up key := ⟨_, rfl⟩
      rw [← hvi, ← hvb]
      clear hvi hvb
      have e1 : (vb == vb) = true := by simp
      go_wp2
      go_ret
      exact ⟨rfl, K4.out⟩
    · have q' : up < 0 ∨ (¬ up < 0 ∧ (t.length : Int) ≤ up) ∨ (¬ up < 0 ∧ ¬ (t.length : Int) ≤ up ∧ key < 1) ∨ (¬ up < 0 ∧ ¬ (t.length : Int) ≤ up ∧ ¬ key < 1 ∧ (57 : Int) < (t.length : Int)) := by
        have : ¬ (0 ≤ up ∧ up < t.length ∧ 1 ≤ key ∧ t.length ≤ 57) := fun h => q ⟨q1, h⟩
        omega
      clear q q1
      rcases q' with i1 | ⟨i1, i2⟩ | ⟨i1, i2, i3⟩ | ⟨i1, i2, i3, i4⟩
      · go_wp2_with fail
        with_reducible refine (implVal t up key _ w2 (O2.out.rdW (by omega))).mono ?_
        rintro e w3 ⟨rfl, hk⟩
        have O3 := Lib.hid (O2.out.kept hk (.inl (Nat.le_refl _)))
        have K3 := Lib.hid (K2.out.trans hk)
        have z3 := hk.size
        clear hk O2 K2
        go_wp2_with fail
        with_reducible refine (val5_any t up key _ w3 (O3.out.rdW (by omega))).mono ?_
        rintro e w4 ⟨rfl, hk⟩
        have K4 := Lib.hid (K3.out.trans hk)
        clear hk O3 K3
        obtain ⟨vi, hvi⟩ : ∃ vi, vi = valI t up key := ⟨_, rfl⟩
        obtain ⟨vb, hvb⟩ : ∃ vb, vb = valB t up key := ⟨_, rfl⟩
        rw [← hvi, ← hvb]
        clear hvi hvb
        have e1 : (vb == vb) = true := by simp
        go_wp2
        go_ret
        exact ⟨rfl, K4.out⟩
      · go_wp2_with fail
        with_reducible refine (implVal t up key _ w2 (O2.out.rdW (by omega))).mono ?_
        rintro e w3 ⟨rfl, hk⟩
        have O3 := Lib.hid (O2.out.kept hk (.inl (Nat.le_refl _)))
        have K3 := Lib.hid (K2.out.trans hk)
        have z3 := hk.size
        clear hk O2 K2
        go_wp2_with fail
        with_reducible refine (val5_any t up key _ w3 (O3.out.rdW (by omega))).mono ?_
        rintro e w4 ⟨rfl, hk⟩
        have K4 := Lib.hid (K3.out.trans hk)
        clear hk O3 K3
        obtain ⟨vi, hvi⟩ : ∃ vi, vi = valI t up key := ⟨_, rfl⟩
        obtain ⟨vb, hvb⟩ : ∃ vb, vb = valB t up key := ⟨_, rfl⟩
        rw [← hvi, ← hvb]
        clear hvi hvb
        have e1 : (vb == vb) = true := by simp
        go_wp2
        go_ret
        exact ⟨rfl, K4.out⟩
      · go_wp2_with fail
        with_reducible refine (implVal t up key _ w2 (O2.out.rdW (by omega))).mono ?_
        rintro e w3 ⟨rfl, hk⟩
        have O3 := Lib.hid (O2.out.kept hk (.inl (Nat.le_refl _)))
        have K3 := Lib.hid (K2.out.trans hk)
        have z3 := hk.size
        clear hk O2 K2
        go_wp2_with fail
        with_reducible refine (val5_any t up key _ w3 (O3.out.rdW (by omega))).mono ?_
        rintro e w4 ⟨rfl, hk⟩
        have K4 := Lib.hid (K3.out.trans hk)
        clear hk O3 K3
        obtain ⟨vi, hvi⟩ : ∃ vi, vi = valI t up key := ⟨_, rfl⟩
        obtain ⟨vb, hvb⟩ : ∃ vb, vb = valB t up key := ⟨_, rfl⟩
        rw [← hvi, ← hvb]
        clear hvi hvb
        have e1 : (vb == vb) = true := by simp
        go_wp2
        go_ret
        exact ⟨rfl, K4.out⟩
      · go_wp2_with fail
        with_reducible refine (implVal t up key _ w2 (O2.out.rdW (by omega))).mono ?_
        rintro e w3 ⟨rfl, hk⟩
        have O3 := Lib.hid (O2.out.kept hk (.inl (Nat.le_refl _)))
        have K3 := Lib.hid (K2.out.trans hk)
        have z3 := hk.size
        clear hk O2 K2
        go_wp2_with fail
        with_reducible refine (val5_any t up key _ w3 (O3.out.rdW (by omega))).mono ?_
        rintro e w4 ⟨rfl, hk⟩
        have K4 := Lib.hid (K3.out.trans hk)
        clear hk O3 K3
        obtain ⟨vi, hvi⟩ : ∃ vi, vi = valI t up key := ⟨_, rfl⟩
        obtain ⟨vb, hvb⟩ : ∃ vb, vb = valB t up key := ⟨_, rfl⟩
        rw [← hvi, ← hvb]
        clear hvi hvb
        have e1 : (vb == vb) = true := by simp
        go_wp2
        go_ret
        exact ⟨rfl, K4.out⟩
end Go.Proofs.Ytakhegamlammcaa
