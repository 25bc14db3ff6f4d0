/- The law of NewSlots returns true for every number; no condition. -/
import Derived.Test.YtgminepgldfdfaaJ
namespace Go.Proofs.Ytgminepgldfdfaa
open Go.RowKit

theorem marks_rd {w : World} {lo hi n n' c c' : Nat} {k : Int} {A A' : Option Addr} (h1 : Own w lo hi 2 A n c ((marksI k n).map (Value.int .i64))) (h2 : Own w lo hi 4 A' n' c' ((marksB (k + n) n').map Value.bool)) (hn : n ≤ 1048576) (hn' : n' ≤ 1048576) : RdS w hi A A' (marksI k n) (marksB (k + n) n') :=
  ⟨h1.rd (by unfold maxLen; omega), h2.rd (by unfold maxLen; omega)⟩

/-- What a NewSlots function does at N. -/
def NewDoes (f : Nat) (N : Int) (ages : List Int) (used : List Bool) (b : Bool) : Prop := ∀ w : World,
    Calls Try.prog f #[.int .i64 N] w fun e w' => ∃ (A A' : Option Addr) (c c' : Nat), e = .returned (.tuple #[.agg #[.slice A ages.length c, .slice A' used.length c'], .bool b]) ∧
      OwnS w' w.heap.size w'.heap.size A c A' c' ages used ∧ Kept 0 0 w w'

theorem NewDoes.at_ {f : Nat} {N : Int} {ages : List Int} {used : List Bool} {b : Bool} (h : NewDoes f N ages used b) (w : World) :
    Calls Try.prog f #[.int .i64 N] w fun e w' => ∃ (A A' : Option Addr) (c c' : Nat), e = .returned (.tuple #[.agg #[.slice A ages.length c, .slice A' used.length c'], .bool b]) ∧
      OwnS w' w.heap.size w'.heap.size A c A' c' ages used ∧ Kept 0 0 w w' := h w

set_option maxHeartbeats 1600000 in
theorem lawNew_gen (N : Int) (ages : List Int) (used : List Bool) (b : Bool) (hs : NewDoes 23 N ages used b) (hm : NewDoes 13 N ages used b) (l1 : ages.length ≤ 64) (l2 : used.length ≤ 64) (w : World) :
    Calls Try.prog 5 #[.int .i64 N] w fun e w' => e = .returned (.bool true) ∧ Kept 0 0 w w' := by
  have hbb : (b == b) = true := by simp
  go_enter Try.func5, Try.ntmps5
  go_wp2_with fail
  with_reducible refine (hs.at_ _).mono ?_
  rintro e w1 ⟨A, A', a, a', rfl, ho, hk⟩
  have O1 := Lib.hid ho
  have K1 := Lib.hid hk
  have z1 : w.heap.size ≤ w1.heap.size := hk.size
  clear ho hk
  go_wp2_with fail
  with_reducible refine (hm.at_ _).mono ?_
  rintro e w2 ⟨G, G', g, g', rfl, ho, hk⟩
  have z2 : w1.heap.size < w2.heap.size := by have := hk.size; simp at this; omega
  have W2 := Lib.hid ((O1.out.kept (Kept.alloc0 _ _) (by omega)).kept hk (by omega))
  have G2 : Hid (OwnS w2 (w1.heap.size + 1) w2.heap.size G g G' g' ages used) := by show OwnS _ _ _ _ _ _ _ _ _; simpa using ho
  have B2 := Lib.hid ((Blk.new _ _ _).kept hk (by omega))
  have K2 := Lib.hid (K1.out.trans ((Kept.alloc0 _ _).trans hk))
  clear ho hk O1 K1
  have c0 := B2.out.cell 0
  have c1 := B2.out.cell 1
  go_wp2_with fail
  clear c0 c1
  with_reducible refine (eqS_any _ _ _ _ _ _ _ _ _ _ _ _ w2.heap.size w1.heap.size _ (by simp) (by simp; omega) (by exact (G2.out.rd (by omega) (by omega)).kept (Nat.le_refl _) (Kept.alloc0 _ _) (.inl (Nat.le_refl _))) (by exact (W2.out.rd (by omega) (by omega)).kept (by omega) (Kept.alloc0 _ _) (.inl (Nat.le_refl _)))).mono ?_
  rintro e w3 ⟨rfl, hk⟩
  have z3 : w2.heap.size < w3.heap.size := by have := hk.size; simp at this; omega
  have W3 := Lib.hid ((W2.out.kept (Kept.alloc0 _ _) (by omega)).kept hk (by omega))
  have G3 := Lib.hid ((G2.out.kept (Kept.alloc0 _ _) (by omega)).kept hk (by omega))
  have B3 := Lib.hid ((B2.out.alloc _).kept hk (by omega))
  have X3 := Lib.hid ((Blk.new _ _ _).kept hk (by omega))
  have K3 := Lib.hid (K2.out.trans ((Kept.alloc0 _ _).trans hk))
  clear hk W2 G2 B2 K2
  have c0 := X3.out.cell 0
  have c1 := X3.out.cell 1
  go_wp2_with fail
  clear c0 c1
  with_reducible refine (markS_any _ _ _ _ _ _ _ (w1.heap.size + 1) w2.heap.size _ (by omega) (by exact G3.out) (by omega) (by omega) (by omega) (by omega)).mono ?_
  rintro e w4 ⟨rfl, m1, m2, hk⟩
  have z4 : w3.heap.size ≤ w4.heap.size := hk.size
  have W4 := Lib.hid (W3.out.kept hk (by omega))
  have M4 := Lib.hid (marks_rd m1 m2 (by omega) (by omega))
  have B4 := Lib.hid (B3.out.kept hk (by omega))
  have X4 := Lib.hid (X3.out.kept hk (by omega))
  have K4 := Lib.hid (K3.out.trans2 hk (by omega))
  clear hk W3 G3 B3 X3 K3 m1 m2
  have c0 := X4.out.cell 0
  have c1 := X4.out.cell 1
  go_wp2_with fail
  clear c0 c1
  with_reducible refine (heldS_any _ _ _ _ _ _ _ w2.heap.size _ (by omega) (by exact M4.out) (by omega) (by omega) (by omega) (by omega)).mono ?_
  rintro e w5 ⟨rfl, hk⟩
  have z5 : w4.heap.size ≤ w5.heap.size := hk.size
  have p5 : 0 ≤ (1 : Int) + ages.length + used.length := by omega
  have W5 := Lib.hid (W4.out.kept hk (by omega))
  have M5 := Lib.hid (M4.out.kept (by omega) hk (by omega))
  have B5 := Lib.hid (B4.out.kept hk (by omega))
  have X5 := Lib.hid (X4.out.kept hk (by omega))
  have K5 := Lib.hid (K4.out.trans hk)
  clear hk W4 M4 B4 X4 K4
  go_wp2_with fail
  with_reducible refine (hm.at_ _).mono ?_
  rintro e w6 ⟨Y, Y', y, y', rfl, ho, hk⟩
  have z6 : w5.heap.size ≤ w6.heap.size := hk.size
  have n6 : w1.heap.size < w6.heap.size := by omega
  have n6' : w2.heap.size < w6.heap.size := by omega
  have W6 := Lib.hid (W5.out.kept hk (by omega))
  have M6 := Lib.hid (M5.out.kept (by omega) hk (by omega))
  have B6 := Lib.hid (B5.out.kept hk (by omega))
  have X6 := Lib.hid (X5.out.kept hk (by omega))
  have Y6 := Lib.hid ho
  have K6 := Lib.hid (K5.out.trans hk)
  clear hk ho W5 M5 B5 X5 K5
  have c0 := B6.out.cell 0
  have c1 := B6.out.cell 1
  go_wp2_with fail
  clear c0 c1
  with_reducible refine (eqS_any _ _ _ _ _ _ _ _ _ _ _ _ w6.heap.size w1.heap.size _ (by simp) (by simp; omega) (by exact (Y6.out.rd (by omega) (by omega)).kept (Nat.le_refl _) (Kept.alloc0 _ _) (.inl (Nat.le_refl _))) (by exact (W6.out.rd (by omega) (by omega)).kept (by omega) (Kept.alloc0 _ _) (.inl (Nat.le_refl _)))).mono ?_
  rintro e w7 ⟨rfl, hk⟩
  have z7 : w6.heap.size < w7.heap.size := by have := hk.size; simp at this; omega
  have M7 := Lib.hid (M6.out.kept (by omega) ((Kept.alloc0 _ _).trans hk) (by omega))
  have X7 := Lib.hid ((X6.out.alloc _).kept hk (by omega))
  have K7 := Lib.hid (K6.out.trans ((Kept.alloc0 _ _).trans hk))
  clear hk W6 M6 B6 X6 K6 Y6
  have c0 := X7.out.cell 0
  have c1 := X7.out.cell 1
  go_wp2_with fail
  clear c0 c1
  with_reducible refine (heldS_any _ _ _ _ _ _ _ w2.heap.size _ (by omega) (by exact M7.out) (by omega) (by omega) (by omega) (by omega)).mono ?_
  rintro e w8 ⟨rfl, hk⟩
  have K8 := Lib.hid (K7.out.trans hk)
  clear hk M7 X7 K7
  go_wp2
  go_ret
  exact ⟨rfl, K8.out⟩

theorem own_nil (w : World) (lo hi : Nat) : OwnS w lo hi none 0 none 0 [] [] :=
  ⟨⟨World.ownsRow_nil _ _ _ _, fun _ h => by cases h⟩, ⟨World.ownsRow_nil _ _ _ _, fun _ h => by cases h⟩⟩

theorem lawNew (N : Int) (w : World) : Calls Try.prog 5 #[.int .i64 N] w fun e w' => e = .returned (.bool true) ∧ Kept 0 0 w w' := by
  by_cases h : 1 ≤ N ∧ N ≤ 64
  · obtain ⟨n, rfl⟩ := Int.eq_ofNat_of_zero_le (show 0 ≤ N by omega)
    exact lawNew_gen n (List.replicate n 0) (List.replicate n false) true (fun w => newSpec_ok _ _ n rfl rfl (by omega) (by omega) w) (fun w => newImpl_ok _ _ n rfl rfl (by omega) (by omega) w) (by simp; omega) (by simp; omega) w
  · exact lawNew_gen N [] [] false (fun w => (newSpec_bad N (by omega) w).mono fun _ _ ⟨he, hk⟩ => ⟨none, none, 0, 0, he, own_nil _ _ _, hk⟩)
      (fun w => (newImpl_bad N (by omega) w).mono fun _ _ ⟨he, hk⟩ => ⟨none, none, 0, 0, he, own_nil _ _ _, hk⟩) (by simp) (by simp) w
end Go.Proofs.Ytgminepgldfdfaa
