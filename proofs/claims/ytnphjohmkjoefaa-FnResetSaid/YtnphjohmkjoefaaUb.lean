/- The draw of timers: valid timers in new memory; condition: the code can be read and has at most 4096 bytes. -/
import Derived.Test.YtnphjohmkjoefaaUa
import Derived.Test.YtnphjohmkjoefaaTx
namespace Go.Proofs.Ytnphjohmkjoefaa
open Go.RowKit Go.Sort

/-- What a draw of valid timers leaves. -/
def DrawnG (g : Nat) (A : Option Addr) (c : Nat) (xs : List Int) (w : World) (e : Ending) (w' : World) : Prop :=
  ∃ u T, e = .returned u ∧ OwnM w' w.heap.size w'.heap.size u T ∧ T.list.length ≤ 64 ∧ Cur w' g A c xs ∧ Kept g (g + 1) w w'
theorem results_l4Draw (tmps : Array Value) (w : World) (r : Nat) (v0 v1 v2 : Value) (hp : tmps[2]?.getD undef = .pointer (some ⟨r, 0, none⟩)) (h : Blk w r 27 #[v0, v1, v2]) :
    (results Try.f48 tmps).run Try.prog w = .ok (.agg #[v0, v1, v2]) w := by
  have h0 := h.cell 0
  have h1 := h.cell 1
  have h2 := h.cell 2
  simp [results, Try.results48, hp, go_sem, h0, h1, h2]

set_option maxHeartbeats 16000000 in
set_option maxRecDepth 100000 in
theorem drawM_any (xs : List Int) (A : Option Addr) (c g : Nat) (w : World) (hc0 : Cur w g A c xs) :
    Calls Try.prog 48 #[.pointer (some ⟨g, 0, none⟩)] w (DrawnG g A c xs w) := by
  have hg := hc0.lt
  obtain ⟨W, hW⟩ : ∃ W, W = w.alloc (.cells #[.slice none 0 0, .slice none 0 0, .int .i64 0] 27) := ⟨_, rfl⟩
  have kW : Kept 0 0 w W := by rw [hW]; exact Kept.alloc0 _ _
  have B0 : Hid (Blk W w.heap.size 27 #[.slice none 0 0, .slice none 0 0, .int .i64 0]) := by show Blk _ _ _ _; rw [hW]; exact Blk.new _ _ _
  have C0 := Lib.hid (hc0.kept kW (.inl (Nat.le_refl _)))
  have K0 : Hid (Kept g (g + 1) w W) := kW.wide (.inl (Nat.le_refl _))
  have zW : w.heap.size + 1 ≤ W.heap.size := by rw [hW]; simp
  have HW := Lib.hid hW
  clear hc0 kW hW
  go_enter Try.func48, Try.ntmps48
  go_wp2_with fail
  rw [← HW.out]
  clear HW
  with_reducible refine (below_any _ _ _ _ _ _ C0.out (by omega) (by omega)).mono ?_
  rintro e w1 ⟨r, rfl, ⟨hr0, hr1⟩, hc, hk⟩
  obtain ⟨r, rfl⟩ := Int.eq_ofNat_of_zero_le hr0
  obtain ⟨V, hV⟩ : ∃ V, V = w1.alloc (.cells #[.slice none 0 0, .slice none 0 0, .int .i64 (r : Int)] 27) := ⟨_, rfl⟩
  have z1 := hk.size
  have S1 : Hid (TimSt w V g A c xs w1.heap.size none 0 none 0 ⟨[], [], (r : Int)⟩) := by
    rw [hV]
    refine ⟨hc.kept (Kept.alloc0 _ _) (.inl (Nat.le_refl _)), (B0.out.kept hk (by omega)).alloc _, Blk.new _ _ _, ?_, (K0.out.trans hk).alloc _, hg, by omega⟩
    obtain ⟨_, _, e, a, b⟩ := zero_own (w1.alloc (.cells #[.slice none 0 0, .slice none 0 0, .int .i64 (r : Int)] 27)) w.heap.size (w1.alloc (.cells #[.slice none 0 0, .slice none 0 0, .int .i64 (r : Int)] 27)).heap.size
    injection e with e
    injection e with e
    injection e with e1 e
    injection e with e2 e
    subst e1 e2
    exact ⟨_, _, rfl, a, b⟩
  have G1 : Hid (Good ⟨[], [], (r : Int)⟩ (r : Int)) := new_good r (by omega)
  have HV := Lib.hid hV
  obtain ⟨bt, hbt⟩ : ∃ bt, bt = w1.heap.size := ⟨_, rfl⟩
  rw [← hbt] at S1
  clear hc hk hV B0 C0 K0 z1
  go_upto_region 2 with fail
  rw [← HV.out, ← hbt]
  clear HV hbt
  go_wp2_with fail
  with_reducible refine (below_any _ _ _ _ _ _ S1.out.cur (by omega) (by omega)).mono ?_
  rintro e w2 ⟨q, rfl, ⟨hq0, hq1⟩, hc, hk⟩
  obtain ⟨q, rfl⟩ := Int.eq_ofNat_of_zero_le hq0
  have S2 := Lib.hid (S1.out.draw hc hk)
  clear hc hk S1
  go_wp2_with fail
  go_loopw [4] (fun i wr => ∃ (m : Nat) (T : Tms) (D1 D2 : Option Addr) (d1 d2 : Nat), i = .int .i64 m ∧ m ≤ 11 ∧ Hid (Good T (14 - (m : Int))) ∧ Hid (TimSt w wr g A c xs bt D1 d1 D2 d2 T)) (fun i _ => (intOf i).toNat)
  case atStart => exact ⟨q, ⟨[], [], (r : Int)⟩, none, none, 0, 0, rfl, by omega, Lib.hid ⟨G1.out.ok, by have := G1.out.le; omega⟩, S2⟩
  case round =>
    clear S2 G1
    obtain ⟨m, T, D1, D2, d1, d2, rfl, hm, GT, ST⟩ := hrel
    by_cases hm0 : 0 < m
    · have i1 : (0 : Int) < (m : Int) := by omega
      have n0 : 0 ≤ T.next := GT.out.ok.next.1
      have n1 : T.next ≤ 14 := by have := GT.out.le; omega
      have b2 := ST.out.box.cell 2
      go_wp2_with fail
      with_reducible refine (below_any _ _ _ _ _ _ ST.out.cur (by omega) (by omega)).mono ?_
      rintro e w5 ⟨sq, rfl, -, hc, hk⟩
      have S5 := Lib.hid (ST.out.draw hc hk)
      clear hc hk ST b2
      go_wp2_with fail
      with_reducible refine (below_any _ _ _ _ _ _ S5.out.cur (by omega) (by omega)).mono ?_
      rintro e w6 ⟨s6, rfl, ⟨hs0, hs1⟩, hc, hk⟩
      have S6 := Lib.hid (S5.out.draw hc hk)
      clear hc hk S5 n0 n1
      rcases (by omega : s6 = 0 ∨ s6 = 1 ∨ s6 = 2 ∨ s6 = 3 ∨ s6 = 4 ∨ s6 = 5) with rfl | rfl | rfl | rfl | rfl | rfl
      · obtain ⟨N, hN⟩ : ∃ N, N = stopL T sq := ⟨_, rfl⟩
        have GN : Hid (Good N (14 - ((m - 1 : Nat) : Int))) := by rw [hN]; exact ⟨(stop_good GT.out sq).ok, by have := (stop_good GT.out sq).le; omega⟩
        have CN := Lib.hid (stop4_any.at_ T sq _ w6 (S6.out.own.rdW (Nat.le_refl _)))
        rw [← hN] at CN
        have b0 := S6.out.box.cell 0
        have b1 := S6.out.box.cell 1
        have b2 := S6.out.box.cell 2
        clear hN GT
        go_wp2_with fail
        with_reducible refine CN.out.mono ?_
        rintro e' w9 ⟨_, rfl, ⟨_, _, rfl, ⟨D3, d3, rfl, oa⟩, ⟨D4, d4, rfl, ob⟩⟩, hk⟩
        have OO : Hid (OwnM w9 w6.heap.size w9.heap.size (.agg #[.slice D3 N.heap.length d3, .slice D4 N.list.length d4, .int .i64 N.next]) N) := ⟨_, _, rfl, ⟨D3, d3, rfl, oa⟩, ⟨D4, d4, rfl, ob⟩⟩
        have S9 := Lib.hid (S6.out.same hk)
        have z9 : w.heap.size ≤ w6.heap.size := S6.out.kept.size
        have PS := Lib.hid (S9.out.put (lo := w6.heap.size) (hi := w9.heap.size) z9 (Nat.le_refl _) OO.out)
        clear oa ob hk CN S6 b0 b1 b2
        have b0 := S9.out.box.cell 0
        have b1 := S9.out.box.cell 1
        have b2 := S9.out.box.cell 2
        have f0 := S9.out.box.frozen 0
        have f1 := S9.out.box.frozen 1
        have f2 := S9.out.box.frozen 2
        clear S9 OO
        go_wp2_with fail
        go_roundw
        case rel => exact ⟨m - 1, N, D3, D4, d3, d4, by rw [show ((m - 1 : Nat) : Int) = (m : Int) - 1 from by omega], by omega, GN, PS⟩
        case measure => simp [intOf]; omega
      · go_upto_region 11 with fail
        have b0 := S6.out.box.cell 0
        have b1 := S6.out.box.cell 1
        have b2 := S6.out.box.cell 2
        go_region_with (first
            | (go_at_call 7; refine (reset4_any.at_ T sq p1 _ v0 (R0.out.own.rdW (Nat.le_refl _))).mono ?_; rintro e' w9 ⟨_, rfl, ⟨_, _, rfl, ⟨D3, d3, rfl, oa⟩, ⟨D4, d4, rfl, ob⟩⟩, hk⟩; have OO : Hid (OwnM w9 v0.heap.size w9.heap.size (.agg #[.slice D3 (resetL T sq p1).heap.length d3, .slice D4 (resetL T sq p1).list.length d4, .int .i64 (resetL T sq p1).next]) (resetL T sq p1)) := ⟨_, _, rfl, ⟨D3, d3, rfl, oa⟩, ⟨D4, d4, rfl, ob⟩⟩; have S9 := Lib.hid (R0.out.same hk); have c0 := S9.out.box.cell 0; have c1 := S9.out.box.cell 1; have c2 := S9.out.box.cell 2; have f0 := S9.out.box.frozen 0; have f1 := S9.out.box.frozen 1; have f2 := S9.out.box.frozen 2; have z9 : w.heap.size ≤ v0.heap.size := R0.out.kept.size; have PS := Lib.hid (S9.out.put (lo := v0.heap.size) (hi := w9.heap.size) z9 (Nat.le_refl _) OO.out); clear oa ob hk OO)
            | (have _u := S6; go_at_call 16; refine (below_any xs A c g 12 w6.drew (S6.out.cur.kept ((Kept.refl 0 0 w6).drew) (.inl (Nat.le_refl _))) (by omega) (by omega)).mono ?_; rintro e' v0 ⟨p1, rfl, -, hc, hk⟩; have R0 := Lib.hid (S6.out.draw hc ((Kept.refl _ _ _).drew.trans hk)); have b00 := R0.out.box.cell 0; have b10 := R0.out.box.cell 1; have b20 := R0.out.box.cell 2; clear hc hk))
        all_goals
          go_wp2_with fail
          go_roundw
          case rel => exact ⟨m - 1, resetL T sq p1, D3, D4, d3, d4, by rw [show ((m - 1 : Nat) : Int) = (m : Int) - 1 from by omega], by omega, Lib.hid ⟨(reset_good GT.out sq p1).ok, by have := (reset_good GT.out sq p1).le; omega⟩, PS⟩
          case measure => simp [intOf]; omega
      · go_upto_region 13 with fail
        have b0 := S6.out.box.cell 0
        have b1 := S6.out.box.cell 1
        have b2 := S6.out.box.cell 2
        go_region_with (first
            | (go_at_call 64; refine (fired4_any.at_ T p1 _ v0 (R0.out.own.rdW (Nat.le_refl _))).mono ?_; rintro e' w9 ⟨_, rfl, ⟨_, _, rfl, ⟨D3, d3, rfl, oa⟩, ⟨D4, d4, rfl, ob⟩⟩, hk⟩; have OO : Hid (OwnM w9 v0.heap.size w9.heap.size (.agg #[.slice D3 (firedL T p1).heap.length d3, .slice D4 (firedL T p1).list.length d4, .int .i64 (firedL T p1).next]) (firedL T p1)) := ⟨_, _, rfl, ⟨D3, d3, rfl, oa⟩, ⟨D4, d4, rfl, ob⟩⟩; have S9 := Lib.hid (R0.out.same hk); have c0 := S9.out.box.cell 0; have c1 := S9.out.box.cell 1; have c2 := S9.out.box.cell 2; have f0 := S9.out.box.frozen 0; have f1 := S9.out.box.frozen 1; have f2 := S9.out.box.frozen 2; have z9 : w.heap.size ≤ v0.heap.size := R0.out.kept.size; have PS := Lib.hid (S9.out.put (lo := v0.heap.size) (hi := w9.heap.size) z9 (Nat.le_refl _) OO.out); clear oa ob hk OO)
            | (have _u := S6; go_at_call 16; refine (below_any xs A c g 12 w6.drew (S6.out.cur.kept ((Kept.refl 0 0 w6).drew) (.inl (Nat.le_refl _))) (by omega) (by omega)).mono ?_; rintro e' v0 ⟨p1, rfl, -, hc, hk⟩; have R0 := Lib.hid (S6.out.draw hc ((Kept.refl _ _ _).drew.trans hk)); have b00 := R0.out.box.cell 0; have b10 := R0.out.box.cell 1; have b20 := R0.out.box.cell 2; clear hc hk))
        all_goals
          go_wp2_with fail
          go_roundw
          case rel => exact ⟨m - 1, firedL T p1, D3, D4, d3, d4, by rw [show ((m - 1 : Nat) : Int) = (m : Int) - 1 from by omega], by omega, Lib.hid ⟨(fired_good GT.out p1).ok, by have := (fired_good GT.out p1).le; omega⟩, PS⟩
          case measure => simp [intOf]; omega
      · go_wp2_with fail
        with_reducible refine (once_any _ _ _ _ _ _ S6.out.cur (by omega) (by omega)).mono ?_
        rintro e w7 ⟨b, rfl, hc, hk⟩
        have S7 := Lib.hid (S6.out.draw hc hk)
        clear hc hk S6
        cases b with
        | true =>
          obtain ⟨N, hN⟩ : ∃ N, N = forgetL T sq := ⟨_, rfl⟩
          have GN : Hid (Good N (14 - ((m - 1 : Nat) : Int))) := by rw [hN]; exact ⟨(forget_good GT.out sq).ok, by have := (forget_good GT.out sq).le; omega⟩
          have CN := Lib.hid (forget4_any.at_ T sq _ w7 (S7.out.own.rdW (Nat.le_refl _)))
          rw [← hN] at CN
          have b0 := S7.out.box.cell 0
          have b1 := S7.out.box.cell 1
          have b2 := S7.out.box.cell 2
          clear hN GT
          go_wp2_with fail
          with_reducible refine CN.out.mono ?_
          rintro e' w9 ⟨_, rfl, ⟨_, _, rfl, ⟨D3, d3, rfl, oa⟩, ⟨D4, d4, rfl, ob⟩⟩, hk⟩
          have OO : Hid (OwnM w9 w7.heap.size w9.heap.size (.agg #[.slice D3 N.heap.length d3, .slice D4 N.list.length d4, .int .i64 N.next]) N) := ⟨_, _, rfl, ⟨D3, d3, rfl, oa⟩, ⟨D4, d4, rfl, ob⟩⟩
          have S9 := Lib.hid (S7.out.same hk)
          have z9 : w.heap.size ≤ w7.heap.size := S7.out.kept.size
          have PS := Lib.hid (S9.out.put (lo := w7.heap.size) (hi := w9.heap.size) z9 (Nat.le_refl _) OO.out)
          clear oa ob hk CN S7 b0 b1 b2
          have b0 := S9.out.box.cell 0
          have b1 := S9.out.box.cell 1
          have b2 := S9.out.box.cell 2
          have f0 := S9.out.box.frozen 0
          have f1 := S9.out.box.frozen 1
          have f2 := S9.out.box.frozen 2
          clear S9 OO
          go_wp2_with fail
          go_roundw
          case rel => exact ⟨m - 1, N, D3, D4, d3, d4, by rw [show ((m - 1 : Nat) : Int) = (m : Int) - 1 from by omega], by omega, GN, PS⟩
          case measure => simp [intOf]; omega
        | false =>
          go_wp2_with fail
          go_roundw
          case rel => exact ⟨m - 1, T, D1, D2, d1, d2, by rw [show ((m - 1 : Nat) : Int) = (m : Int) - 1 from by omega], by omega, Lib.hid ⟨GT.out.ok, by have := GT.out.le; omega⟩, S7⟩
          case measure => simp [intOf]; omega
      · go_upto_region 7 with fail
        have b0 := S6.out.box.cell 0
        have b1 := S6.out.box.cell 1
        have b2 := S6.out.box.cell 2
        go_region_with (first
            | (go_at_call 65; refine (arm4_any.at_ T p1 p2 p3 _ v2 (R2.out.own.rdW (Nat.le_refl _))).mono ?_; rintro e' w9 ⟨_, rfl, ⟨_, _, rfl, ⟨D3, d3, rfl, oa⟩, ⟨D4, d4, rfl, ob⟩⟩, hk⟩; have OO : Hid (OwnM w9 v2.heap.size w9.heap.size (.agg #[.slice D3 (armL T p1 p2 p3).heap.length d3, .slice D4 (armL T p1 p2 p3).list.length d4, .int .i64 (armL T p1 p2 p3).next]) (armL T p1 p2 p3)) := ⟨_, _, rfl, ⟨D3, d3, rfl, oa⟩, ⟨D4, d4, rfl, ob⟩⟩; have S9 := Lib.hid (R2.out.same hk); have c0 := S9.out.box.cell 0; have c1 := S9.out.box.cell 1; have c2 := S9.out.box.cell 2; have f0 := S9.out.box.frozen 0; have f1 := S9.out.box.frozen 1; have f2 := S9.out.box.frozen 2; have z9 : w.heap.size ≤ v2.heap.size := R2.out.kept.size; have PS := Lib.hid (S9.out.put (lo := v2.heap.size) (hi := w9.heap.size) z9 (Nat.le_refl _) OO.out); clear oa ob hk OO)
            | (have _u := R1; go_at_call 16; refine (below_any xs A c g 3 v1 R1.out.cur (by omega) (by omega)).mono ?_; rintro e' v2 ⟨p3, rfl, -, hc, hk⟩; have R2 := Lib.hid (R1.out.draw hc hk); have b02 := R2.out.box.cell 0; have b12 := R2.out.box.cell 1; have b22 := R2.out.box.cell 2; clear hc hk)
            | (have _u := R0; go_at_call 16; refine (below_any xs A c g 3 v0 R0.out.cur (by omega) (by omega)).mono ?_; rintro e' v1 ⟨p2, rfl, -, hc, hk⟩; have R1 := Lib.hid (R0.out.draw hc hk); have b01 := R1.out.box.cell 0; have b11 := R1.out.box.cell 1; have b21 := R1.out.box.cell 2; clear hc hk)
            | (have _u := S6; go_at_call 16; refine (below_any xs A c g 12 w6.drew (S6.out.cur.kept ((Kept.refl 0 0 w6).drew) (.inl (Nat.le_refl _))) (by omega) (by omega)).mono ?_; rintro e' v0 ⟨p1, rfl, -, hc, hk⟩; have R0 := Lib.hid (S6.out.draw hc ((Kept.refl _ _ _).drew.trans hk)); have b00 := R0.out.box.cell 0; have b10 := R0.out.box.cell 1; have b20 := R0.out.box.cell 2; clear hc hk))
        all_goals
          go_wp2_with fail
          go_roundw
          case rel => exact ⟨m - 1, armL T p1 p2 p3, D3, D4, d3, d4, by rw [show ((m - 1 : Nat) : Int) = (m : Int) - 1 from by omega], by omega, Lib.hid ⟨(arm_good GT.out p1 p2 p3).ok, by have := (arm_good GT.out p1 p2 p3).le; omega⟩, PS⟩
          case measure => simp [intOf]; omega
      · go_upto_region 7 with fail
        have b0 := S6.out.box.cell 0
        have b1 := S6.out.box.cell 1
        have b2 := S6.out.box.cell 2
        go_region_with (first
            | (go_at_call 65; refine (arm4_any.at_ T p1 p2 p3 _ v2 (R2.out.own.rdW (Nat.le_refl _))).mono ?_; rintro e' w9 ⟨_, rfl, ⟨_, _, rfl, ⟨D3, d3, rfl, oa⟩, ⟨D4, d4, rfl, ob⟩⟩, hk⟩; have OO : Hid (OwnM w9 v2.heap.size w9.heap.size (.agg #[.slice D3 (armL T p1 p2 p3).heap.length d3, .slice D4 (armL T p1 p2 p3).list.length d4, .int .i64 (armL T p1 p2 p3).next]) (armL T p1 p2 p3)) := ⟨_, _, rfl, ⟨D3, d3, rfl, oa⟩, ⟨D4, d4, rfl, ob⟩⟩; have S9 := Lib.hid (R2.out.same hk); have c0 := S9.out.box.cell 0; have c1 := S9.out.box.cell 1; have c2 := S9.out.box.cell 2; have f0 := S9.out.box.frozen 0; have f1 := S9.out.box.frozen 1; have f2 := S9.out.box.frozen 2; have z9 : w.heap.size ≤ v2.heap.size := R2.out.kept.size; have PS := Lib.hid (S9.out.put (lo := v2.heap.size) (hi := w9.heap.size) z9 (Nat.le_refl _) OO.out); clear oa ob hk OO)
            | (have _u := R1; go_at_call 16; refine (below_any xs A c g 3 v1 R1.out.cur (by omega) (by omega)).mono ?_; rintro e' v2 ⟨p3, rfl, -, hc, hk⟩; have R2 := Lib.hid (R1.out.draw hc hk); have b02 := R2.out.box.cell 0; have b12 := R2.out.box.cell 1; have b22 := R2.out.box.cell 2; clear hc hk)
            | (have _u := R0; go_at_call 16; refine (below_any xs A c g 3 v0 R0.out.cur (by omega) (by omega)).mono ?_; rintro e' v1 ⟨p2, rfl, -, hc, hk⟩; have R1 := Lib.hid (R0.out.draw hc hk); have b01 := R1.out.box.cell 0; have b11 := R1.out.box.cell 1; have b21 := R1.out.box.cell 2; clear hc hk)
            | (have _u := S6; go_at_call 16; refine (below_any xs A c g 12 w6.drew (S6.out.cur.kept ((Kept.refl 0 0 w6).drew) (.inl (Nat.le_refl _))) (by omega) (by omega)).mono ?_; rintro e' v0 ⟨p1, rfl, -, hc, hk⟩; have R0 := Lib.hid (S6.out.draw hc ((Kept.refl _ _ _).drew.trans hk)); have b00 := R0.out.box.cell 0; have b10 := R0.out.box.cell 1; have b20 := R0.out.box.cell 2; clear hc hk))
        all_goals
          go_wp2_with fail
          go_roundw
          case rel => exact ⟨m - 1, armL T p1 p2 p3, D3, D4, d3, d4, by rw [show ((m - 1 : Nat) : Int) = (m : Int) - 1 from by omega], by omega, Lib.hid ⟨(arm_good GT.out p1 p2 p3).ok, by have := (arm_good GT.out p1 p2 p3).le; omega⟩, PS⟩
          case measure => simp [intOf]; omega
    · have i1 : ¬ (0 : Int) < (m : Int) := by omega
      go_wp2_with fail
      with_reducible refine (once_any _ _ _ _ _ _ ST.out.cur (by omega) (by omega)).mono ?_
      rintro e w5 ⟨b, rfl, hc, hk⟩
      have S5 := Lib.hid (ST.out.draw hc hk)
      clear hc hk ST
      cases b with
      | false =>
        have b0 := S5.out.box.cell 0
        have b1 := S5.out.box.cell 1
        have b2 := S5.out.box.cell 2
        have r0 := S5.out.res.cell 0
        have r1 := S5.out.res.cell 1
        have r2 := S5.out.res.cell 2
        have g0 := S5.out.res.frozen 0
        have g1 := S5.out.res.frozen 1
        have g2 := S5.out.res.frozen 2
        have TL := Lib.hid (GT.out.ok.len)
        have FO := Lib.hid S5.out.out
        clear S5 GT
        go_wp2_with fail
        exact bodyPost_ret (v := .agg #[.slice D1 T.heap.length d1, .slice D2 T.list.length d2, .int .i64 T.next]) (results_l4Draw _ _ w.heap.size _ _ _ rfl FO.out.1) rfl ⟨_, T, rfl, FO.out.2.1, TL.out, FO.out.2.2.1, FO.out.2.2.2⟩
      | true =>
        have b0 := S5.out.box.cell 0
        have b1 := S5.out.box.cell 1
        have b2 := S5.out.box.cell 2
        have f0 := S5.out.box.frozen 0
        have f1 := S5.out.box.frozen 1
        have f2 := S5.out.box.frozen 2
        have z5 := S5.out.kept.size
        have PS := Lib.hid (S5.out.put (N := zeroT) (D3 := none) (D4 := none) (d3 := 0) (d4 := 0) z5 (Nat.le_refl _) (zero_own w5 w5.heap.size w5.heap.size))
        obtain ⟨V5, hV5⟩ : ∃ V5, V5 = ((w5.setCell ⟨bt, 0, none⟩ (.slice none 0 0)).setCell ⟨bt, 1, none⟩ (.slice none 0 0)).setCell ⟨bt, 2, none⟩ (.int .i64 0) := ⟨_, rfl⟩
        have PS : Hid (TimSt w V5 g A c xs bt none 0 none 0 zeroT) := by rw [hV5]; exact PS.out
        have HV5 := Lib.hid hV5
        clear hV5 S5 GT
        go_upto_region 19 with fail
        rw [← HV5.out]
        clear HV5 b0 b1 b2 f0 f1 f2
        go_wp2_with fail
        with_reducible refine (below_any _ _ _ _ _ _ PS.out.cur (by omega) (by omega)).mono ?_
        rintro e w6 ⟨q6, rfl, ⟨hq0', hq1'⟩, hc, hk⟩
        obtain ⟨q6, rfl⟩ := Int.eq_ofNat_of_zero_le hq0'
        have S6 := Lib.hid (PS.out.draw hc hk)
        clear hc hk PS
        go_wp2_with fail
        go_loopw [6] (fun i wr => ∃ (m : Nat) (T : Tms) (D1 D2 : Option Addr) (d1 d2 : Nat), i = .int .i64 m ∧ m ≤ 64 ∧ Hid (Good T (64 - (m : Int))) ∧ Hid (TimSt w wr g A c xs bt D1 d1 D2 d2 T)) (fun i _ => (intOf i).toNat)
        case atStart => exact ⟨64 - q6, zeroT, none, none, 0, 0, by rw [show ((64 - q6 : Nat) : Int) = 64 - (q6 : Int) from by omega], by omega, Lib.hid ⟨zero_ok, by simp [zeroT]; omega⟩, S6⟩
        case round =>
          clear S6
          obtain ⟨m, T, D1, D2, d1, d2, rfl, hm, GT, S6⟩ := hrel
          by_cases hm0 : 0 < m
          · have i1 : (0 : Int) < (m : Int) := by omega
            obtain ⟨w6, hw6⟩ : ∃ w6, w6 = wr := ⟨_, rfl⟩
            rw [← hw6] at S6 ⊢
            clear hw6
            go_upto_region 22 with fail
            have b0 := S6.out.box.cell 0
            have b1 := S6.out.box.cell 1
            have b2 := S6.out.box.cell 2
            go_region_with (first
                | (go_at_call 65; refine (arm4_any.at_ T p1 2 1 _ v0 (R0.out.own.rdW (Nat.le_refl _))).mono ?_; rintro e' w9 ⟨_, rfl, ⟨_, _, rfl, ⟨D3, d3, rfl, oa⟩, ⟨D4, d4, rfl, ob⟩⟩, hk⟩; have OO : Hid (OwnM w9 v0.heap.size w9.heap.size (.agg #[.slice D3 (armL T p1 2 1).heap.length d3, .slice D4 (armL T p1 2 1).list.length d4, .int .i64 (armL T p1 2 1).next]) (armL T p1 2 1)) := ⟨_, _, rfl, ⟨D3, d3, rfl, oa⟩, ⟨D4, d4, rfl, ob⟩⟩; have S9 := Lib.hid (R0.out.same hk); have c0 := S9.out.box.cell 0; have c1 := S9.out.box.cell 1; have c2 := S9.out.box.cell 2; have f0 := S9.out.box.frozen 0; have f1 := S9.out.box.frozen 1; have f2 := S9.out.box.frozen 2; have z9 : w.heap.size ≤ v0.heap.size := R0.out.kept.size; have PS := Lib.hid (S9.out.put (lo := v0.heap.size) (hi := w9.heap.size) z9 (Nat.le_refl _) OO.out); clear oa ob hk OO)
                | (have _u := S6; go_at_call 16; refine (below_any xs A c g 50 w6.drew (S6.out.cur.kept ((Kept.refl 0 0 w6).drew) (.inl (Nat.le_refl _))) (by omega) (by omega)).mono ?_; rintro e' v0 ⟨p1, rfl, -, hc, hk⟩; have R0 := Lib.hid (S6.out.draw hc ((Kept.refl _ _ _).drew.trans hk)); have b00 := R0.out.box.cell 0; have b10 := R0.out.box.cell 1; have b20 := R0.out.box.cell 2; clear hc hk))
            all_goals
              go_wp2_with fail
              go_roundw
              case rel => exact ⟨m - 1, armL T p1 2 1, D3, D4, d3, d4, by rw [show ((m - 1 : Nat) : Int) = (m : Int) - 1 from by omega], by omega, Lib.hid ⟨(arm_good GT.out p1 2 1).ok, by have := (arm_good GT.out p1 2 1).le; omega⟩, PS⟩
              case measure => simp [intOf]; omega
          · have i1 : ¬ (0 : Int) < (m : Int) := by omega
            have b0 := S6.out.box.cell 0
            have b1 := S6.out.box.cell 1
            have b2 := S6.out.box.cell 2
            have r0 := S6.out.res.cell 0
            have r1 := S6.out.res.cell 1
            have r2 := S6.out.res.cell 2
            have g0 := S6.out.res.frozen 0
            have g1 := S6.out.res.frozen 1
            have g2 := S6.out.res.frozen 2
            have TL := Lib.hid (GT.out.ok.len)
            have FO := Lib.hid S6.out.out
            clear S6 GT
            go_wp2_with fail
            exact bodyPost_ret (v := .agg #[.slice D1 T.heap.length d1, .slice D2 T.list.length d2, .int .i64 T.next]) (results_l4Draw _ _ w.heap.size _ _ _ rfl FO.out.1) rfl ⟨_, T, rfl, FO.out.2.1, TL.out, FO.out.2.2.1, FO.out.2.2.2⟩
end Go.Proofs.Ytnphjohmkjoefaa
