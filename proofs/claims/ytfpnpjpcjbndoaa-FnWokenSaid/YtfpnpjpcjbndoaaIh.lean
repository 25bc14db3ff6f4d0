/- The draws of the laws of ParkedOn and Woken; condition: the code can be read and has at most 4096 bytes. -/
import Derived.Test.YtfpnpjpcjbndoaaIg
namespace Go.Proofs.Ytfpnpjpcjbndoaa
open Go.RowKit Go.Sort

def DrawnPk (w : World) (e : Ending) (w' : World) : Prop :=
  ∃ (zs : List Tk) (D : Option Addr) (d : Nat) (y h : Int), e = .returned (.tuple #[.slice D zs.length d, .int .i64 y, .int .i64 h]) ∧ zs.length ≤ 61 ∧ OwnZ w' w.heap.size w'.heap.size 35 9 D zs.length d (tkR.flat zs) ∧ Kept 0 0 w w'
set_option maxHeartbeats 6400000 in
theorem drawPk_any (xs : List Int) (A : Option Addr) (c : Nat) (w : World) (h : Rd (Value.int .u8) w w.heap.size A xs) (hx : ∀ x ∈ xs, 0 ≤ x ∧ x ≤ 255) (hl : xs.length ≤ 4096) :
    Calls Try.prog 29 #[.slice A xs.length c] w (DrawnPk w) := by
  have CN := Lib.hid (new_any xs A c w h hx hl)
  clear h hx
  go_enter Try.func29, Try.ntmps29
  go_wp2_with fail
  with_reducible refine CN.out.mono ?_
  rintro e w1 ⟨rfl, hc, hk⟩
  have C1 := Lib.hid hc
  have K1 := Lib.hid hk
  have g1 := hc.lt
  clear hc hk CN
  go_wp2_with fail
  with_reducible refine (drawAny11_any _ _ _ _ _ C1.out).mono ?_
  rintro e w2 ⟨zs, D, d, rfl, zl, o2, hc, hk⟩
  have O2 := Lib.hid o2
  have C2 := Lib.hid hc
  have K2 : Hid (Kept 0 0 w w2) := K1.out.trans2 hk (.inr (Nat.le_refl _))
  have z2 := hk.size
  clear o2 hc hk C1
  by_cases hz : 0 < zs.length
  case neg =>
    have i1 : ¬ (0 : Int) < (zs.length : Int) := by omega
    go_wp2_with fail
    with_reducible refine (below_any _ _ _ _ _ _ C2.out (by omega) (by omega)).mono ?_
    rintro e v3 ⟨p1, rfl, -, hc, hk⟩
    have P3 := Lib.hid (O2.out.kept hk (by omega))
    have D3 := Lib.hid hc
    have E3 : Hid (Kept 0 0 w v3) := K2.out.trans2 hk (.inr (by omega))
    have z_v3 := hk.size
    clear hc hk O2 C2 K2
    go_wp2_with fail
    with_reducible refine (below_any _ _ _ _ _ _ D3.out (by omega) (by omega)).mono ?_
    rintro e v4 ⟨p2, rfl, -, hc, hk⟩
    have P4 := Lib.hid (P3.out.kept hk (by omega))
    have D4 := Lib.hid hc
    have E4 : Hid (Kept 0 0 w v4) := E3.out.trans2 hk (.inr (by omega))
    have z_v4 := hk.size
    clear hc hk P3 D3 E3
    go_wp2_with fail
    exact bodyPost_ret (v := .tuple #[.slice D zs.length d, .int .i64 p1, .int .i64 p2]) (by simp [results, Try.results29, go_sem]) rfl ⟨zs, D, d, p1, p2, rfl, zl, P4.out.wide (by omega) (by omega), E4.out⟩
  have i1 : (0 : Int) < (zs.length : Int) := by omega
  go_wp2_with fail
  with_reducible refine (once_any _ _ _ _ _ _ C2.out (by omega) (by omega)).mono ?_
  rintro e w3 ⟨b, rfl, hc, hk⟩
  have O3 := Lib.hid (O2.out.kept hk (by omega))
  have C3 := Lib.hid hc
  have K3 : Hid (Kept 0 0 w w3) := K2.out.trans2 hk (.inr (by omega))
  have z_w3 := hk.size
  clear hc hk O2 C2 K2
  cases b
  · go_wp2_with fail
    with_reducible refine (below_any _ _ _ _ _ _ C3.out (by omega) (by omega)).mono ?_
    rintro e w4 ⟨r, rfl, ⟨hr0, hr1⟩, hc, hk⟩
    have O4 := Lib.hid (O3.out.kept hk (by omega))
    have C4 := Lib.hid hc
    have K4 : Hid (Kept 0 0 w w4) := K3.out.trans2 hk (.inr (by omega))
    have z_w4 := hk.size
    clear hc hk O3 C3 K3
    obtain ⟨n, rfl⟩ : ∃ n : Nat, r = n := ⟨r.toNat, by omega⟩
    have hn : n < zs.length := by omega
    obtain ⟨ad, rfl, _, c0, c1, c2, c3, c4, c5, c6, c7, c8⟩ := (OwnZ.rd (R := tkR) O4.out).2.tk hn
    obtain ⟨t, ht⟩ : ∃ t, t = zs[n] := ⟨_, rfl⟩
    rw [← ht] at c0 c1 c2 c3 c4 c5 c6 c7 c8
    clear ht
    obtain ⟨V, hV⟩ : ∃ V, V = w4.alloc (.cells #[.int .i64 t.prog, .int .i64 t.pc, .int .i64 t.st, .int .i64 t.why, .int .i64 t.what, .int .i64 t.timer, .int .i64 t.reg, .int .i64 t.grp, .int .i64 t.err] 35) := ⟨_, rfl⟩
    have kV : Kept 0 0 w4 V := by rw [hV]; exact Kept.alloc0 _ _
    have BV : Blk V w4.heap.size 35 #[.int .i64 t.prog, .int .i64 t.pc, .int .i64 t.st, .int .i64 t.why, .int .i64 t.what, .int .i64 t.timer, .int .i64 t.reg, .int .i64 t.grp, .int .i64 t.err] := by rw [hV]; exact Blk.new _ _ _
    have k3 := cell_regrown (BV.cell 3)
    have k4 := cell_regrown (BV.cell 4)
    have OV := Lib.hid (O4.out.kept kV (.inl (Nat.le_refl _)))
    have KV := Lib.hid (K4.out.trans kV)
    have HV := Lib.hid hV
    have zV := kV.size
    clear kV hV BV O4 K4 C4
    go_upto_region 5 with fail
    rw [← HV.out]
    clear HV c0 c1 c2 c3 c4 c5 c6 c7 c8
    refine wp_region_quiet_below (by kernel_rfl) (by kernel_rfl) ?_
    repeat (first | go_big_quiet_step (fail) | quiet_step (fail))
    refine wpQuiet_nil ?_
    intro _ hw'
    obtain ⟨⟨dq, osq⟩, hw''⟩ := hw'
    subst hw''
    go_wp2
    exact bodyPost_ret (v := .tuple #[.slice (some ad) zs.length d, .int .i64 t.why, .int .i64 t.what]) (by simp [results, Try.results29, go_sem]) rfl ⟨zs, _, d, t.why, t.what, rfl, zl, (OV.out.kept (Kept.regrown V dq osq) (.inl (Nat.le_refl _))).wide (by omega) (by have := (Kept.regrown V dq osq).size; omega), KV.out.trans (Kept.regrown V dq osq)⟩
  · go_wp2_with fail
    with_reducible refine (below_any _ _ _ _ _ _ C3.out (by omega) (by omega)).mono ?_
    rintro e v4 ⟨p1, rfl, -, hc, hk⟩
    have P4 := Lib.hid (O3.out.kept hk (by omega))
    have D4 := Lib.hid hc
    have E4 : Hid (Kept 0 0 w v4) := K3.out.trans2 hk (.inr (by omega))
    have z_v4 := hk.size
    clear hc hk O3 C3 K3
    go_wp2_with fail
    with_reducible refine (below_any _ _ _ _ _ _ D4.out (by omega) (by omega)).mono ?_
    rintro e v5 ⟨p2, rfl, -, hc, hk⟩
    have P5 := Lib.hid (P4.out.kept hk (by omega))
    have D5 := Lib.hid hc
    have E5 : Hid (Kept 0 0 w v5) := E4.out.trans2 hk (.inr (by omega))
    have z_v5 := hk.size
    clear hc hk P4 D4 E4
    go_wp2_with fail
    exact bodyPost_ret (v := .tuple #[.slice D zs.length d, .int .i64 p1, .int .i64 p2]) (by simp [results, Try.results29, go_sem]) rfl ⟨zs, D, d, p1, p2, rfl, zl, P5.out.wide (by omega) (by omega), E5.out⟩
def DrawnWk (w : World) (e : Ending) (w' : World) : Prop :=
  ∃ (zs : List Tk) (D : Option Addr) (d : Nat) (y h q : Int), e = .returned (.tuple #[.slice D zs.length d, .int .i64 y, .int .i64 h, .int .i64 q]) ∧ zs.length ≤ 61 ∧ OwnZ w' w.heap.size w'.heap.size 35 9 D zs.length d (tkR.flat zs) ∧ Kept 0 0 w w'
set_option maxHeartbeats 3200000 in
theorem drawWk_any (xs : List Int) (A : Option Addr) (c : Nat) (w : World) (h : Rd (Value.int .u8) w w.heap.size A xs) (hx : ∀ x ∈ xs, 0 ≤ x ∧ x ≤ 255) (hl : xs.length ≤ 4096) :
    Calls Try.prog 9 #[.slice A xs.length c] w (DrawnWk w) := by
  have CN := Lib.hid (new_any xs A c w h hx hl)
  have CP := Lib.hid (fun (W : World) (k : Kept 0 0 w W) => drawPk_any xs A c W ((h.kept (Nat.le_refl _) k (.inl (Nat.le_refl _))).wide k.size) hx hl)
  clear h hx
  go_enter Try.func9, Try.ntmps9
  go_wp2_with fail
  with_reducible refine CN.out.mono ?_
  rintro e w1 ⟨rfl, hc, hk⟩
  have C1 := Lib.hid hc
  have K1 := Lib.hid hk
  have g1 := hc.lt
  clear hc hk CN
  go_wp2_with fail
  with_reducible refine (CP.out w1 K1.out).mono ?_
  rintro e w2 ⟨zs, D, d, y, h, rfl, zl, o2, hk⟩
  have O2 := Lib.hid o2
  have C2 := Lib.hid (C1.out.kept hk (.inl (Nat.le_refl _)))
  have K2 := Lib.hid (K1.out.trans hk)
  have z2 := hk.size
  clear o2 hk C1 CP
  go_wp2_with fail
  with_reducible refine (numN_any _ _ _ _ _ _ C2.out (by omega) (by omega)).mono ?_
  rintro e w3 ⟨q, rfl, -, hc, hk⟩
  have O3 := Lib.hid (O2.out.kept hk (by omega))
  have K3 : Hid (Kept 0 0 w w3) := K2.out.trans2 hk (.inr (by omega))
  have z3 := hk.size
  clear hc hk O2 C2 K2
  go_wp2_with fail
  exact bodyPost_ret (v := .tuple #[.slice D zs.length d, .int .i64 y, .int .i64 h, .int .i64 q]) (by simp [results, Try.results9, go_sem]) rfl ⟨zs, D, d, y, h, q, rfl, zl, O3.out.wide (by omega) (by omega), K3.out⟩
end Go.Proofs.Ytfpnpjpcjbndoaa
