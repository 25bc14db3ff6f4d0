/- The law of Taken returns true for every Slots that can be read; no condition. -/
import Derived.Test.YtgminepgldfdfaaZ4
import Derived.Test.YtgminepgldfdfaaX
namespace Go.Proofs.Ytgminepgldfdfaa
open Go.RowKit

theorem TakeDoes.at_ {f : Nat} {ages : List Int} {used : List Bool} {ages' : List Int} {used' : List Bool} {s a : Int} {b : Bool} (h : TakeDoes f ages used ages' used' s a b) (A A' : Option Addr) (c c' B : Nat) (w : World) (hB : B ≤ w.heap.size) (hr : RdS w B A A' ages used) :
    Calls Try.prog f #[.agg #[.slice A ages.length c, .slice A' used.length c']] w fun e w' => ∃ (D D' : Option Addr) (d d' : Nat),
      e = .returned (.tuple #[.agg #[.slice D ages'.length d, .slice D' used'.length d'], .agg #[.int .i64 s, .int .i64 a], .bool b]) ∧ OwnS w' w.heap.size w'.heap.size D d D' d' ages' used' ∧ Kept 0 0 w w' := h A A' c c' B w hB hr

/-- The box of the law's own argument, and all that was there before. -/
structure EnvT (w w' : World) (A A' : Option Addr) (c c' : Nat) (ages : List Int) (used : List Bool) : Prop where
  k : Kept 0 0 w w'
  b : Blk w' w.heap.size 43 #[.slice A ages.length c, .slice A' used.length c']
theorem EnvT.step {w w' w'' : World} {A A' : Option Addr} {c c' : Nat} {ages : List Int} {used : List Bool} (e : EnvT w w' A A' c c' ages used) {lo hi : Nat} (k : Kept lo hi w' w'') (hr : hi ≤ lo ∨ w.heap.size + 1 ≤ lo) : EnvT w w'' A A' c c' ages used :=
  ⟨e.k.trans2 k (by omega), e.b.kept k (by omega)⟩

set_option maxRecDepth 100000 in
set_option maxHeartbeats 6400000 in
theorem lawTake_gen (ages : List Int) (used : List Bool) (ages' : List Int) (used' : List Bool) (s a : Int) (b : Bool) (hs : TakeDoes 26 ages used ages' used' s a b) (hm : TakeDoes 14 ages used ages' used' s a b) (l1 : ages'.length ≤ 64) (l2 : used'.length ≤ 64)
    (hz : ages.length + used.length ≤ 1048576) (A A' : Option Addr) (c c' : Nat) (w : World) (h : RdS w w.heap.size A A' ages used) :
    Calls Try.prog 6 #[.agg #[.slice A ages.length c, .slice A' used.length c']] w fun e w' => e = .returned (.bool true) ∧ Kept 0 0 w w' := by
  have H := Lib.hid h
  clear h
  go_enter Try.func6, Try.ntmps6
  go_wp2_with fail
  with_reducible refine (szS_ok _ _ _ _ _ _ _ hz).mono ?_
  rintro e w1 ⟨rfl, hk⟩
  have hp : ¬ ((1048576 : Int) - ages.length - used.length < 0) := by omega
  have E1 : Hid (EnvT w w1 A A' c c' ages used) := ⟨(Kept.alloc0 _ _).trans hk, (Blk.new _ _ _).kept hk (by omega)⟩
  have y1 := E1.out.b.lt
  clear hk
  have c0 := E1.out.b.cell 0
  have c1 := E1.out.b.cell 1
  go_wp2_with fail
  clear c0 c1
  with_reducible refine (toS_any _ _ _ _ _ _ _ (by exact H.out.up E1.out.k) (by omega) (by omega)).mono ?_
  rintro e w2 ⟨P, P', p1, p1', rfl, ho, hk⟩
  have R2 := Lib.hid (ho.rd (by omega) (by omega))
  have z2 := hk.size
  have E2 := Lib.hid (E1.out.step hk (.inl (Nat.le_refl _)))
  clear E1
  clear hk ho
  go_wp2_with fail
  with_reducible refine (hs.at_ _ _ _ _ w2.heap.size _ (Nat.le_refl _) (by exact R2.out)).mono ?_
  rintro e w3 ⟨W0, W0', w01, w01', rfl, ho, hk⟩
  have z3 := hk.size
  have E3 := Lib.hid (E2.out.step hk (.inl (Nat.le_refl _)))
  clear E2
  have O3 := Lib.hid ho
  clear hk ho R2
  have c0 := E3.out.b.cell 0
  have c1 := E3.out.b.cell 1
  have y3 := E3.out.b.lt
  go_wp2_with fail
  clear c0 c1
  obtain ⟨V3, hV3⟩ : ∃ V3, V3 = (w3.alloc (.cells #[.slice W0 ages'.length w01, .slice W0' used'.length w01'] 31)).alloc (.cells #[.int .i64 s, .int .i64 a] 36) := ⟨_, rfl⟩
  have kV3 : Kept 0 0 w3 V3 := by rw [hV3]; exact (Kept.alloc0 _ _).alloc _
  have BW1 : Hid (Box V3 w3.heap.size w2.heap.size w3.heap.size W0 w01 W0' w01' ages' used') := by show Box _ _ _ _ _ _ _ _ _ _; rw [hV3]; exact (box_new O3.out).step (Kept.alloc0 _ _) (.inl (Nat.le_refl _))
  have HW1 : Hid (Blk V3 (w3.heap.size + 1) 36 #[.int .i64 s, .int .i64 a]) := by show Blk _ _ _ _; rw [hV3]; have := Blk.new (w3.alloc (.cells #[.slice W0 ages'.length w01, .slice W0' used'.length w01'] 31)) 36 #[.int .i64 s, .int .i64 a]; simpa using this
  have zV3 : V3.heap.size = w3.heap.size + 1 + 1 := by rw [hV3]; simp
  rw [← hV3]
  have E4 := Lib.hid (E3.out.step kV3 (.inl (Nat.le_refl _)))
  clear E3
  have zV3a : V3.heap.size ≤ w3.heap.size + 2 := by omega
  have zV3b : w3.heap.size + 2 ≤ V3.heap.size := by omega
  clear hV3 kV3 zV3 O3
  with_reducible refine (toS_any _ _ _ _ _ _ _ (by exact H.out.up E4.out.k) (by omega) (by omega)).mono ?_
  rintro e w4 ⟨X, X', x1, x1', rfl, ho, hk⟩
  have z4 := hk.size
  have O4 := Lib.hid ho
  have E5 := Lib.hid (E4.out.step hk (.inl (Nat.le_refl _)))
  clear E4
  have BW2 := Lib.hid (BW1.out.step hk (.inl (Nat.le_refl _)))
  clear BW1
  have HW2 := Lib.hid (HW1.out.kept hk (.inl (Nat.le_refl _)))
  clear HW1
  clear hk ho
  go_wp2_with fail
  obtain ⟨V4, hV4⟩ : ∃ V4, V4 = w4.alloc (.cells #[.slice X ages.length x1, .slice X' used.length x1'] 31) := ⟨_, rfl⟩
  have kV4 : Kept 0 0 w4 V4 := by rw [hV4]; exact Kept.alloc0 _ _
  have BX1 : Hid (Box V4 w4.heap.size V3.heap.size w4.heap.size X x1 X' x1' ages used) := by show Box _ _ _ _ _ _ _ _ _ _; rw [hV4]; exact box_new O4.out
  have zV4 : V4.heap.size = w4.heap.size + 1 := by rw [hV4]; simp
  rw [← hV4]
  have E6 := Lib.hid (E5.out.step kV4 (.inl (Nat.le_refl _)))
  clear E5
  have BW3 := Lib.hid (BW2.out.step kV4 (.inl (Nat.le_refl _)))
  clear BW2
  have HW3 := Lib.hid (HW2.out.kept kV4 (.inl (Nat.le_refl _)))
  clear HW2
  have zV4a : V4.heap.size ≤ w4.heap.size + 1 := by omega
  have zV4b : w4.heap.size + 1 ≤ V4.heap.size := by omega
  clear hV4 kV4 zV4 O4
  with_reducible refine (hm.at_ _ _ _ _ w4.heap.size _ BX1.out.le (by exact (BX1.out.rd (by omega) (by omega)))).mono ?_
  rintro e w5 ⟨G, G', g1, g1', rfl, ho, hk⟩
  have z5 := hk.size
  have O5 := Lib.hid ho
  have E7 := Lib.hid (E6.out.step hk (.inl (Nat.le_refl _)))
  clear E6
  have BW4 := Lib.hid (BW3.out.step hk (.inl (Nat.le_refl _)))
  clear BW3
  have HW4 := Lib.hid (HW3.out.kept hk (.inl (Nat.le_refl _)))
  clear HW3
  have BX2 := Lib.hid (BX1.out.step hk (.inl (Nat.le_refl _)))
  clear BX1
  clear hk ho
  have n5 : w3.heap.size < w5.heap.size := by omega
  have n5a : w3.heap.size + 1 < w5.heap.size := by omega
  have c0 := BW4.out.x.cell 0
  have c1 := BW4.out.x.cell 1
  have c2 := HW4.out.cell 0
  have c3 := HW4.out.cell 1
  go_wp2_with fail
  clear c0 c1 c2 c3
  obtain ⟨V5, hV5⟩ : ∃ V5, V5 = (w5.alloc (.cells #[.slice G ages'.length g1, .slice G' used'.length g1'] 31)).alloc (.cells #[.int .i64 s, .int .i64 a] 36) := ⟨_, rfl⟩
  have kV5 : Kept 0 0 w5 V5 := by rw [hV5]; exact (Kept.alloc0 _ _).alloc _
  have BG1 : Hid (Box V5 w5.heap.size V4.heap.size w5.heap.size G g1 G' g1' ages' used') := by show Box _ _ _ _ _ _ _ _ _ _; rw [hV5]; exact (box_new O5.out).step (Kept.alloc0 _ _) (.inl (Nat.le_refl _))
  have HG1 : Hid (Blk V5 (w5.heap.size + 1) 36 #[.int .i64 s, .int .i64 a]) := by show Blk _ _ _ _; rw [hV5]; have := Blk.new (w5.alloc (.cells #[.slice G ages'.length g1, .slice G' used'.length g1'] 31)) 36 #[.int .i64 s, .int .i64 a]; simpa using this
  have zV5 : V5.heap.size = w5.heap.size + 1 + 1 := by rw [hV5]; simp
  rw [← hV5]
  have E8 := Lib.hid (E7.out.step kV5 (.inl (Nat.le_refl _)))
  clear E7
  have BW5 := Lib.hid (BW4.out.step kV5 (.inl (Nat.le_refl _)))
  clear BW4
  have HW5 := Lib.hid (HW4.out.kept kV5 (.inl (Nat.le_refl _)))
  clear HW4
  have BX3 := Lib.hid (BX2.out.step kV5 (.inl (Nat.le_refl _)))
  clear BX2
  have zV5a : V5.heap.size ≤ w5.heap.size + 2 := by omega
  have zV5b : w5.heap.size + 2 ≤ V5.heap.size := by omega
  have hbb : (b == b) = true := by simp
  clear hV5 kV5 zV5 O5
  with_reducible refine (eqS_any _ _ _ _ _ _ _ _ _ _ _ _ w5.heap.size w3.heap.size _ BG1.out.le BW5.out.le (by exact BG1.out.rd (by omega) (by omega)) (by exact BW5.out.rd (by omega) (by omega))).mono ?_
  rintro e w6 ⟨rfl, hk⟩
  have z_w6 := hk.size
  have E9 := Lib.hid (E8.out.step hk (.inl (Nat.le_refl _)))
  clear E8
  have BW6 := Lib.hid (BW5.out.step hk (.inl (Nat.le_refl _)))
  clear BW5
  have HW6 := Lib.hid (HW5.out.kept hk (.inl (Nat.le_refl _)))
  clear HW5
  have BX4 := Lib.hid (BX3.out.step hk (.inl (Nat.le_refl _)))
  clear BX3
  have BG2 := Lib.hid (BG1.out.step hk (.inl (Nat.le_refl _)))
  clear BG1
  have HG2 := Lib.hid (HG1.out.kept hk (.inl (Nat.le_refl _)))
  clear HG1
  clear hk
  have c0 := HG2.out.cell 0
  have c1 := HG2.out.cell 1
  have c2 := HW6.out.cell 0
  have c3 := HW6.out.cell 1
  go_wp2_with fail
  clear c0 c1 c2 c3
  with_reducible refine (eqHandle_any _ _ _ _ _).mono ?_
  rintro e w8 ⟨rfl, hk⟩
  have z_w8 := hk.size
  have E10 := Lib.hid (E9.out.step hk (.inl (Nat.le_refl _)))
  clear E9
  have BW7 := Lib.hid (BW6.out.step hk (.inl (Nat.le_refl _)))
  clear BW6
  have HW7 := Lib.hid (HW6.out.kept hk (.inl (Nat.le_refl _)))
  clear HW6
  have BX5 := Lib.hid (BX4.out.step hk (.inl (Nat.le_refl _)))
  clear BX4
  have BG3 := Lib.hid (BG2.out.step hk (.inl (Nat.le_refl _)))
  clear BG2
  have HG3 := Lib.hid (HG2.out.kept hk (.inl (Nat.le_refl _)))
  clear HG2
  clear hk
  have c0 := E10.out.b.cell 0
  have c1 := E10.out.b.cell 1
  have c2 := BX5.out.x.cell 0
  have c3 := BX5.out.x.cell 1
  go_wp2_with fail
  go_region_held3 (fun w' => w'.cell? ⟨w.heap.size, 0, none⟩ = some (.slice A ages.length c) ∧ w'.cell? ⟨w.heap.size, 1, none⟩ = some (.slice A' used.length c') ∧ w'.cell? ⟨w4.heap.size, 0, none⟩ = some (.slice X ages.length x1) ∧ w'.cell? ⟨w4.heap.size, 1, none⟩ = some (.slice X' used.length x1')) (first | exact ⟨c0, c1, c2, c3⟩ | exact ⟨d0, d1, d2, d3⟩ | exact ⟨f0, f1, f2, f3⟩)
    (first
      | (go_at_call 21; refine (toS_any _ _ _ _ _ _ _ (by exact H.out.up E10.out.k.drew) (by omega) (by omega)).mono ?_; rintro e w9 ⟨Y, Y', y1, y1', rfl, ho6, hk6⟩; have k9 : Kept 0 0 w8 w9 := (Kept.refl 0 0 w8).drew.trans hk6; have E9' := E10.out.step k9 (.inl (Nat.le_refl _)); have BX9' := BX5.out.step k9 (.inl (Nat.le_refl _)); have Y9 := ho6.rd (by omega) (by omega); clear hk6 ho6; have d0 := E9'.b.cell 0; have d1 := E9'.b.cell 1; have d2 := BX9'.x.cell 0; have d3 := BX9'.x.cell 1)
      | (go_at_call 22; refine (eqS_any _ _ _ _ _ _ _ _ _ _ _ _ w4.heap.size w9.heap.size _ (by exact BX9'.le) (Nat.le_refl _) (by exact BX9'.rd (by omega) (by omega)) (by exact Y9)).mono ?_; rintro e wq ⟨rfl, hk7⟩; have kq : Kept 0 0 w8 wq := k9.trans hk7; have Eq' := E9'.step hk7 (.inl (Nat.le_refl _)); have BXq' := BX9'.step hk7 (.inl (Nat.le_refl _)); clear hk7; have f0 := Eq'.b.cell 0; have f1 := Eq'.b.cell 1; have f2 := BXq'.x.cell 0; have f3 := BXq'.x.cell 1))
  clear c0 c1 c2 c3 d0 d1 d2 d3 f0 f1 f2 f3 E9' BX9' Y9 k9 Eq' BXq'
  have zq := kq.size
  have E11 := Lib.hid (E10.out.step kq (.inl (Nat.le_refl _)))
  clear E10
  have BW8 := Lib.hid (BW7.out.step kq (.inl (Nat.le_refl _)))
  clear BW7
  have HW8 := Lib.hid (HW7.out.kept kq (.inl (Nat.le_refl _)))
  clear HW7
  have BX6 := Lib.hid (BX5.out.step kq (.inl (Nat.le_refl _)))
  clear BX5
  have BG4 := Lib.hid (BG3.out.step kq (.inl (Nat.le_refl _)))
  clear BG3
  have HG4 := Lib.hid (HG3.out.kept kq (.inl (Nat.le_refl _)))
  clear HG3
  clear kq
  have c0 := BX6.out.x.cell 0
  have c1 := BX6.out.x.cell 1
  go_wp2_with fail
  clear c0 c1
  with_reducible refine (markS_any _ _ _ _ _ _ _ V3.heap.size w4.heap.size _ (by omega) (by exact BX6.out.o) (by omega) (by omega) (by omega) (by omega)).mono ?_
  rintro e w11 ⟨rfl, m1, m2, hk⟩
  have z11 := hk.size
  clear BX6 m1 m2
  have E12 := Lib.hid (E11.out.step hk (by omega))
  clear E11
  have BW9 := Lib.hid (BW8.out.step hk (by omega))
  clear BW8
  have HW9 := Lib.hid (HW8.out.kept hk (by omega))
  clear HW8
  have BG5 := Lib.hid (BG4.out.step hk (by omega))
  clear BG4
  have HG5 := Lib.hid (HG4.out.kept hk (by omega))
  clear HG4
  clear hk
  have p11 : decide ((1 : Int) + ages.length + used.length < 0) = false := by simp; omega
  have c0 := BG5.out.x.cell 0
  have c1 := BG5.out.x.cell 1
  have c2 := BW9.out.x.cell 0
  have c3 := BW9.out.x.cell 1
  go_wp2_with fail
  clear c0 c1 c2 c3
  with_reducible refine (eqS_any _ _ _ _ _ _ _ _ _ _ _ _ w5.heap.size w3.heap.size _ BG5.out.le BW9.out.le (by exact BG5.out.rd (by omega) (by omega)) (by exact BW9.out.rd (by omega) (by omega))).mono ?_
  rintro e w12 ⟨rfl, hk⟩
  have z_w12 := hk.size
  have E13 := Lib.hid (E12.out.step hk (.inl (Nat.le_refl _)))
  clear E12
  have BW10 := Lib.hid (BW9.out.step hk (.inl (Nat.le_refl _)))
  clear BW9
  have HW10 := Lib.hid (HW9.out.kept hk (.inl (Nat.le_refl _)))
  clear HW9
  have BG6 := Lib.hid (BG5.out.step hk (.inl (Nat.le_refl _)))
  clear BG5
  have HG6 := Lib.hid (HG5.out.kept hk (.inl (Nat.le_refl _)))
  clear HG5
  clear hk
  have c0 := HG6.out.cell 0
  have c1 := HG6.out.cell 1
  have c2 := HW10.out.cell 0
  have c3 := HW10.out.cell 1
  go_wp2_with fail
  clear c0 c1 c2 c3
  with_reducible refine (eqHandle_any _ _ _ _ _).mono ?_
  rintro e w13 ⟨rfl, hk⟩
  have z_w13 := hk.size
  have E14 := Lib.hid (E13.out.step hk (.inl (Nat.le_refl _)))
  clear E13
  have BW11 := Lib.hid (BW10.out.step hk (.inl (Nat.le_refl _)))
  clear BW10
  have HW11 := Lib.hid (HW10.out.kept hk (.inl (Nat.le_refl _)))
  clear HW10
  have BG7 := Lib.hid (BG6.out.step hk (.inl (Nat.le_refl _)))
  clear BG6
  have HG7 := Lib.hid (HG6.out.kept hk (.inl (Nat.le_refl _)))
  clear HG6
  clear hk
  have c0 := BG7.out.x.cell 0
  have c1 := BG7.out.x.cell 1
  go_wp2_with fail
  clear c0 c1
  with_reducible refine (markS_any _ _ _ _ _ _ _ V4.heap.size w5.heap.size _ (by omega) (by exact BG7.out.o) (by omega) (by omega) (by omega) (by omega)).mono ?_
  rintro e w14 ⟨rfl, m1, m2, hk⟩
  have z14 := hk.size
  have M1 := Lib.hid (marks_rd m1 m2 (by omega) (by omega))
  have X1 := Lib.hid (BG7.out.x.kept hk (by omega))
  clear m1 m2 BG7 HG7
  have E15 := Lib.hid (E14.out.step hk (by omega))
  clear E14
  have BW12 := Lib.hid (BW11.out.step hk (by omega))
  clear BW11
  have HW12 := Lib.hid (HW11.out.kept hk (by omega))
  clear HW11
  clear hk
  have c0 := X1.out.cell 0
  have c1 := X1.out.cell 1
  go_wp2_with fail
  clear c0 c1
  with_reducible refine (heldS_any _ _ _ _ _ _ _ w5.heap.size _ (by omega) (by exact M1.out) (by omega) (by omega) (by omega) (by omega)).mono ?_
  rintro e w15 ⟨rfl, hk⟩
  have z_w15 := hk.size
  have p15 : 0 ≤ (1 : Int) + ages'.length + used'.length := by omega
  have M2 := Lib.hid (M1.out.kept (by omega) hk (.inl (Nat.le_refl _)))
  clear M1
  have X2 := Lib.hid (X1.out.kept hk (.inl (Nat.le_refl _)))
  clear X1
  have E16 := Lib.hid (E15.out.step hk (.inl (Nat.le_refl _)))
  clear E15
  have BW13 := Lib.hid (BW12.out.step hk (.inl (Nat.le_refl _)))
  clear BW12
  have HW13 := Lib.hid (HW12.out.kept hk (.inl (Nat.le_refl _)))
  clear HW12
  clear hk
  have c0 := E16.out.b.cell 0
  have c1 := E16.out.b.cell 1
  go_wp2_with fail
  clear c0 c1
  with_reducible refine (toS_any _ _ _ _ _ _ _ (by exact H.out.up E16.out.k) (by omega) (by omega)).mono ?_
  rintro e w16 ⟨Z, Z', z1, z1', rfl, ho, hk⟩
  have z16 := hk.size
  have R16 := Lib.hid (ho.rd (by omega) (by omega))
  clear ho
  have M3 := Lib.hid (M2.out.kept (by omega) hk (.inl (Nat.le_refl _)))
  clear M2
  have X3 := Lib.hid (X2.out.kept hk (.inl (Nat.le_refl _)))
  clear X2
  have E17 := Lib.hid (E16.out.step hk (.inl (Nat.le_refl _)))
  clear E16
  have BW14 := Lib.hid (BW13.out.step hk (.inl (Nat.le_refl _)))
  clear BW13
  have HW14 := Lib.hid (HW13.out.kept hk (.inl (Nat.le_refl _)))
  clear HW13
  clear hk
  go_wp2_with fail
  with_reducible refine (hm.at_ _ _ _ _ w16.heap.size _ (Nat.le_refl _) (by exact R16.out)).mono ?_
  rintro e w17 ⟨T0, T0', t01, t01', rfl, ho, hk⟩
  have z17 := hk.size
  have O17 := Lib.hid ho
  clear ho R16
  have M4 := Lib.hid (M3.out.kept (by omega) hk (.inl (Nat.le_refl _)))
  clear M3
  have X4 := Lib.hid (X3.out.kept hk (.inl (Nat.le_refl _)))
  clear X3
  have E18 := Lib.hid (E17.out.step hk (.inl (Nat.le_refl _)))
  clear E17
  have BW15 := Lib.hid (BW14.out.step hk (.inl (Nat.le_refl _)))
  clear BW14
  have HW15 := Lib.hid (HW14.out.kept hk (.inl (Nat.le_refl _)))
  clear HW14
  clear hk
  have n17 : w3.heap.size < w17.heap.size := by omega
  have n17a : w3.heap.size + 1 < w17.heap.size := by omega
  have c0 := BW15.out.x.cell 0
  have c1 := BW15.out.x.cell 1
  have c2 := HW15.out.cell 0
  have c3 := HW15.out.cell 1
  go_wp2_with fail
  clear c0 c1 c2 c3
  obtain ⟨V6, hV6⟩ : ∃ V6, V6 = (w17.alloc (.cells #[.slice T0 ages'.length t01, .slice T0' used'.length t01'] 31)).alloc (.cells #[.int .i64 s, .int .i64 a] 36) := ⟨_, rfl⟩
  have kV6 : Kept 0 0 w17 V6 := by rw [hV6]; exact (Kept.alloc0 _ _).alloc _
  have BT1 : Hid (Box V6 w17.heap.size w16.heap.size w17.heap.size T0 t01 T0' t01' ages' used') := by show Box _ _ _ _ _ _ _ _ _ _; rw [hV6]; exact (box_new O17.out).step (Kept.alloc0 _ _) (.inl (Nat.le_refl _))
  have HT1 : Hid (Blk V6 (w17.heap.size + 1) 36 #[.int .i64 s, .int .i64 a]) := by show Blk _ _ _ _; rw [hV6]; have := Blk.new (w17.alloc (.cells #[.slice T0 ages'.length t01, .slice T0' used'.length t01'] 31)) 36 #[.int .i64 s, .int .i64 a]; simpa using this
  have zV6 : V6.heap.size = w17.heap.size + 1 + 1 := by rw [hV6]; simp
  rw [← hV6]
  have hk := kV6
  have M5 := Lib.hid (M4.out.kept (by omega) hk (.inl (Nat.le_refl _)))
  clear M4
  have X5 := Lib.hid (X4.out.kept hk (.inl (Nat.le_refl _)))
  clear X4
  have E19 := Lib.hid (E18.out.step kV6 (.inl (Nat.le_refl _)))
  clear E18
  have BW16 := Lib.hid (BW15.out.step kV6 (.inl (Nat.le_refl _)))
  clear BW15
  have HW16 := Lib.hid (HW15.out.kept kV6 (.inl (Nat.le_refl _)))
  clear HW15
  have zV6b : w17.heap.size + 2 ≤ V6.heap.size := by omega
  clear hk hV6 kV6 zV6 O17
  with_reducible refine (eqS_any _ _ _ _ _ _ _ _ _ _ _ _ w17.heap.size w3.heap.size _ BT1.out.le BW16.out.le (by exact BT1.out.rd (by omega) (by omega)) (by exact BW16.out.rd (by omega) (by omega))).mono ?_
  rintro e w18 ⟨rfl, hk⟩
  have z_w18 := hk.size
  have M6 := Lib.hid (M5.out.kept (by omega) hk (.inl (Nat.le_refl _)))
  clear M5
  have X6 := Lib.hid (X5.out.kept hk (.inl (Nat.le_refl _)))
  clear X5
  have E20 := Lib.hid (E19.out.step hk (.inl (Nat.le_refl _)))
  clear E19
  have BW17 := Lib.hid (BW16.out.step hk (.inl (Nat.le_refl _)))
  clear BW16
  have HW17 := Lib.hid (HW16.out.kept hk (.inl (Nat.le_refl _)))
  clear HW16
  have BT2 := Lib.hid (BT1.out.step hk (.inl (Nat.le_refl _)))
  clear BT1
  have HT2 := Lib.hid (HT1.out.kept hk (.inl (Nat.le_refl _)))
  clear HT1
  clear hk
  have c0 := HT2.out.cell 0
  have c1 := HT2.out.cell 1
  have c2 := HW17.out.cell 0
  have c3 := HW17.out.cell 1
  go_wp2_with fail
  clear c0 c1 c2 c3
  with_reducible refine (eqHandle_any _ _ _ _ _).mono ?_
  rintro e w19 ⟨rfl, hk⟩
  have z_w19 := hk.size
  have M7 := Lib.hid (M6.out.kept (by omega) hk (.inl (Nat.le_refl _)))
  clear M6
  have X7 := Lib.hid (X6.out.kept hk (.inl (Nat.le_refl _)))
  clear X6
  have E21 := Lib.hid (E20.out.step hk (.inl (Nat.le_refl _)))
  clear E20
  have BW18 := Lib.hid (BW17.out.step hk (.inl (Nat.le_refl _)))
  clear BW17
  have HW18 := Lib.hid (HW17.out.kept hk (.inl (Nat.le_refl _)))
  clear HW17
  have BT3 := Lib.hid (BT2.out.step hk (.inl (Nat.le_refl _)))
  clear BT2
  have HT3 := Lib.hid (HT2.out.kept hk (.inl (Nat.le_refl _)))
  clear HT2
  clear hk
  have c0 := X7.out.cell 0
  have c1 := X7.out.cell 1
  go_wp2_with fail
  clear c0 c1
  with_reducible refine (heldS_any _ _ _ _ _ _ _ w5.heap.size _ (by omega) (by exact M7.out) (by omega) (by omega) (by omega) (by omega)).mono ?_
  rintro e w20 ⟨rfl, hk⟩
  have z_w20 := hk.size
  have K20 := Lib.hid (E21.out.k.trans hk)
  clear hk
  go_wp2
  go_ret
  exact ⟨rfl, K20.out⟩

theorem first_free (ages : List Int) (used : List Bool) : ∀ n, NoneFree ages used n ∨ ∃ k, k < n ∧ freeB ages used k = true ∧ NoneFree ages used k := by
  intro n
  induction n with
  | zero => exact .inl (fun i hi => by omega)
  | succ n ih =>
    rcases ih with h | ⟨k, h1, h2, h3⟩
    · cases e : freeB ages used n
      · exact .inl (fun i hi => by
          by_cases hin : i = n
          · rw [hin]; exact e
          · exact h i (by omega))
      · exact .inr ⟨n, by omega, e, h⟩
    · exact .inr ⟨k, by omega, h2, h3⟩

set_option maxHeartbeats 800000 in
theorem lawTaken (ages : List Int) (used : List Bool) (A A' : Option Addr) (c c' : Nat) (w : World) (h : RdS w w.heap.size A A' ages used) :
    Calls Try.prog 6 #[.agg #[.slice A ages.length c, .slice A' used.length c']] w fun e w' => e = .returned (.bool true) ∧ Kept 0 0 w w' := by
  by_cases hz : ages.length + used.length ≤ 1048576
  · cases hb : slotsOkB ages used
    · exact lawTake_gen ages used [] [] 0 0 false (takeSpec_bad _ _ hb) (takeImpl_bad _ _ hb) (by simp) (by simp) hz A A' c c' w h
    · have hl := slotsOk_len hb
      rcases first_free ages used ages.length with hn | ⟨k, h1, h2, h3⟩
      · exact lawTake_gen ages used ages used 0 0 false (takeSpec_no _ _ hb hn) (takeImpl_no _ _ hb hn) (by omega) (by omega) hz A A' c c' w h
      · have hk2 : k < used.length := by omega
        exact lawTake_gen ages used ages (used.set k true) k ages[k] true (takeSpec_yes _ _ k _ hb h1 hk2 h2 h3 rfl) (takeImpl_yes _ _ k _ hb h1 hk2 h2 h3 rfl) (by omega) (by simp; omega) hz A A' c c' w h
  · have HM := Lib.hid (And.intro h.i.1 h.b.1)
    clear h
    go_enter Try.func6, Try.ntmps6
    go_wp2_with fail
    with_reducible refine (szS_big _ _ _ _ _ _ _ (by omega) HM.out.1 HM.out.2).mono ?_
    rintro e w1 ⟨rfl, hk⟩
    have K1 := Lib.hid ((Kept.alloc0 _ _).trans hk)
    clear hk
    go_wp2
    go_ret
    exact ⟨rfl, K1.out⟩
end Go.Proofs.Ytgminepgldfdfaa
