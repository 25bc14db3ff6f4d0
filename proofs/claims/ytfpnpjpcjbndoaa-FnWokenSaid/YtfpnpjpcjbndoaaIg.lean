/- The draws of lists of tasks: each returns a list of at most sixty-one tasks, in new memory, and turns nothing old but the cursor; condition: the code can be read and has at most 4096 bytes. -/
import Derived.Test.YtfpnpjpcjbndoaaHi
import Derived.Test.YtfpnpjpcjbndoaaIa
namespace Go.Proofs.Ytfpnpjpcjbndoaa
open Go.RowKit Go.Sort

theorem own_litT (w : World) (x : Tk) : (w.alloc (.cells #[.int .i64 x.prog, .int .i64 x.pc, .int .i64 x.st, .int .i64 x.why, .int .i64 x.what, .int .i64 x.timer, .int .i64 x.reg, .int .i64 x.grp, .int .i64 x.err] 35)).ownsRow w.heap.size 35 9 (.slice (some ⟨w.heap.size, 0, none⟩) 1 1) 1 (tkR.flat [x]) :=
  World.ownsRow_lit w #[.int .i64 x.prog, .int .i64 x.pc, .int .i64 x.st, .int .i64 x.why, .int .i64 x.what, .int .i64 x.timer, .int .i64 x.reg, .int .i64 x.grp, .int .i64 x.err] 1 (Nat.le_refl _) (by unfold maxLen; omega) rfl
theorem rd_litT (w : World) (x : Tk) : RdR tkR (w.alloc (.cells #[.int .i64 x.prog, .int .i64 x.pc, .int .i64 x.st, .int .i64 x.why, .int .i64 x.what, .int .i64 x.timer, .int .i64 x.reg, .int .i64 x.grp, .int .i64 x.err] 35)) (w.heap.size + 1) (some ⟨w.heap.size, 0, none⟩) [x] := by
  have := (OwnZ.rd (R := tkR) (OwnZ.of_row (own_litT w x))).2
  simpa using this
/-- What a draw of a list leaves. -/
def DrawnL (n : Nat) (g : Nat) (A : Option Addr) (c : Nat) (xs : List Int) (w : World) (e : Ending) (w' : World) : Prop :=
  ∃ (zs : List Tk) (D : Option Addr) (d : Nat), e = .returned (.slice D zs.length d) ∧ zs.length ≤ n ∧ OwnZ w' w.heap.size w'.heap.size 35 9 D zs.length d (tkR.flat zs) ∧ Cur w' g A c xs ∧ Kept g (g + 1) w w'
set_option maxHeartbeats 12800000 in
theorem drawAny11_any (xs : List Int) (A : Option Addr) (c g : Nat) (w : World) (h : Cur w g A c xs) :
    Calls Try.prog 40 #[.pointer (some ⟨g, 0, none⟩)] w (DrawnL 61 g A c xs w) := by
  have hg := h.lt
  have HS := Lib.hid tkSlice
  obtain ⟨W, hW⟩ : ∃ W, W = w.alloc (.cells #[] 35) := ⟨_, rfl⟩
  have kW : Kept 0 0 w W := by rw [hW]; exact Kept.alloc0 _ _
  have C0 := Lib.hid (h.kept kW (.inl (Nat.le_refl _)))
  have K0 : Hid (Kept g (g + 1) w W) := kW.wide (.inl (Nat.le_refl _))
  have O0 : Hid (W.ownsRow w.heap.size 35 9 (.slice (some ⟨w.heap.size, 0, none⟩) ([] : List Tk).length 0) ([] : List Tk).length (tkR.flat [])) := by show W.ownsRow _ _ _ _ _ _; rw [hW]; exact own_emptyZ (Blk.new w 35 #[]) (Nat.le_refl _)
  have HW := Lib.hid hW
  clear h kW hW
  go_enter Try.func40, Try.ntmps40
  go_wp2_with fail
  rw [← HW.out]
  with_reducible refine (below_any _ _ _ _ _ _ C0.out (by omega) (by omega)).mono ?_
  rintro e w1 ⟨r, rfl, ⟨hr0, hr1⟩, hc, hk⟩
  have O1 : Hid (w1.ownsRow w.heap.size 35 9 (.slice (some ⟨w.heap.size, 0, none⟩) ([] : List Tk).length 0) ([] : List Tk).length (tkR.flat [])) := row_other O0.out (by simp [Value.ownBlock]; omega) hk
  have C1 := Lib.hid hc
  have K1 := Lib.hid (K0.out.trans hk)
  clear hc hk C0 K0 O0 HW
  obtain ⟨R, rfl⟩ : ∃ R : Nat, r = R := ⟨r.toNat, by omega⟩
  go_wp2_with fail
  go_loopw [3, 4] (fun v i wr => ∃ (m : Nat) (D : Option Addr) (d : Nat) (zs : List Tk), i = .int .i64 m ∧ v = .slice D zs.length d ∧ zs.length + m ≤ 7 ∧ Hid (wr.ownsRow w.heap.size 35 9 (.slice D zs.length d) zs.length (tkR.flat zs)) ∧ Hid (Cur wr g A c xs) ∧ Hid (Kept g (g + 1) w wr)) (fun _ i _ => (intOf i).toNat)
  case atStart => exact ⟨R, some ⟨w.heap.size, 0, none⟩, 0, [], by rfl, by rfl, by simp; omega, O1, C1, K1⟩
  case round =>
    clear O1 C1 K1
    obtain ⟨m, D, d, zs, rfl, rfl, hzm, HO, HC, HK⟩ := hrel
    have zk := HK.out.size
    by_cases hm : 0 < m
    · have i1 : (0 : Int) < (m : Int) := by omega
      have HM := Lib.hid hm
      clear hm
      go_wp2_with fail
      with_reducible refine (draw10_any _ _ _ _ _ HC.out).mono ?_
      rintro e w4 ⟨y, rfl, hc, hk⟩
      have N0 : ∀ g', (Value.slice D zs.length d).ownBlock = some g' → w.heap.size ≤ g' := fun g' h => by
        cases D with
        | none => cases h
        | some a => exact (own_row_lo HO.out g' (by simpa [rowAt, Value.ownBlock] using h)).1
      have O4 := Lib.hid (row_other HO.out (fun h => by have := N0 _ h; omega) hk)
      have C4 := Lib.hid hc
      have K4 := Lib.hid (HK.out.trans hk)
      have z_w4 := hk.size
      clear hc hk HO HC HK N0
      go_wp2_with (at_builtin; go_must (refine wpList_app (R := tkR) rfl (.tmp 13) (.tmp 16) rfl HS.out w.heap.size D d zs rfl (row_kept O4.out (Kept.alloc0 w4 (.cells #[.int .i64 y.prog, .int .i64 y.pc, .int .i64 y.st, .int .i64 y.why, .int .i64 y.what, .int .i64 y.timer, .int .i64 y.reg, .int .i64 y.grp, .int .i64 y.err] 35))) (w4.heap.size + 1) (some ⟨w4.heap.size, 0, none⟩) 1 [y] rfl (rd_litT w4 y) (by simp [maxLen]; omega) (by simp; omega) (by simp; omega) ?_); intro D2 d2 w5 hown hgrow hat)
      have CA : Cur (w4.alloc (.cells #[.int .i64 y.prog, .int .i64 y.pc, .int .i64 y.st, .int .i64 y.why, .int .i64 y.what, .int .i64 y.timer, .int .i64 y.reg, .int .i64 y.grp, .int .i64 y.err] 35)) g A c xs := C4.out.kept (Kept.alloc0 _ _) (.inl (Nat.le_refl _))
      have NA : ∀ k, rowAt D = some k → w.heap.size ≤ k := fun k hk => (own_row_lo O4.out k hk).1
      have kg : Kept w.heap.size w5.heap.size (w4.alloc (.cells #[.int .i64 y.prog, .int .i64 y.pc, .int .i64 y.st, .int .i64 y.why, .int .i64 y.what, .int .i64 y.timer, .int .i64 y.reg, .int .i64 y.grp, .int .i64 y.err] 35)) w5 := Kept.of_grown hgrow (fun k hk => ⟨NA k hk, Nat.lt_of_lt_of_le (by have := (own_row_lo O4.out k hk).2; simp; omega) hgrow.size⟩)
      have C5 := Lib.hid (CA.kept kg (.inr (by omega)))
      have K5 := Lib.hid ((K4.out.alloc (.cells #[.int .i64 y.prog, .int .i64 y.pc, .int .i64 y.st, .int .i64 y.why, .int .i64 y.what, .int .i64 y.timer, .int .i64 y.reg, .int .i64 y.grp, .int .i64 y.err] 35)).trans2 kg (.inr (Nat.le_refl _)))
      have O5 := Lib.hid hown
      clear hown hgrow hat O4 C4 K4 CA NA kg
      go_roundw
      case rel => exact ⟨m - 1, D2, d2, zs ++ [y], by have := HM.out; exact congrArg (Value.int IntKind.i64) (by omega), by simp, (by have := HM.out; simp; omega), O5, C5, K5⟩
      case measure => have := HM.out; simp [intOf]; omega
    · have i1 : ¬ (0 : Int) < (m : Int) := by omega
      have hm0 : m = 0 := by omega
      subst hm0
      go_wp2_with fail
      with_reducible refine (once_any _ _ _ _ _ _ HC.out (by omega) (by omega)).mono ?_
      rintro e w2 ⟨b, rfl, hc, hk⟩
      have N0 : ∀ g', (Value.slice D zs.length d).ownBlock = some g' → w.heap.size ≤ g' := fun g' h => by
        cases D with
        | none => cases h
        | some a => exact (own_row_lo HO.out g' (by simpa [rowAt, Value.ownBlock] using h)).1
      have O2 := Lib.hid (row_other HO.out (fun h => by have := N0 _ h; omega) hk)
      have C2 := Lib.hid hc
      have K2 := Lib.hid (HK.out.trans hk)
      have z_w2 := hk.size
      clear hc hk HO HC HK N0
      cases b
      · go_wp2_with fail
        with_reducible refine (once_any _ _ _ _ _ _ C2.out (by omega) (by omega)).mono ?_
        rintro e w3 ⟨b, rfl, hc, hk⟩
        have N0 : ∀ g', (Value.slice D zs.length d).ownBlock = some g' → w.heap.size ≤ g' := fun g' h => by
          cases D with
          | none => cases h
          | some a => exact (own_row_lo O2.out g' (by simpa [rowAt, Value.ownBlock] using h)).1
        have O3 := Lib.hid (row_other O2.out (fun h => by have := N0 _ h; omega) hk)
        have C3 := Lib.hid hc
        have K3 := Lib.hid (K2.out.trans hk)
        have z_w3 := hk.size
        clear hc hk O2 C2 K2 N0
        cases b
        · go_wp2_with fail
          go_ret
          exact ⟨zs, D, d, (by first | rfl | (rw [List.length_append]; rfl)), by simp at *; omega, OwnZ.of_row O3.out, C3.out, K3.out⟩
        · obtain ⟨V, hV⟩ : ∃ V, V = w3.alloc (.cells #[] 35) := ⟨_, rfl⟩
          have kV : Kept 0 0 w3 V := by rw [hV]; exact Kept.alloc0 _ _
          have zw := K3.out.size
          have OV : Hid (V.ownsRow w.heap.size 35 9 (.slice (some ⟨w3.heap.size, 0, none⟩) ([] : List Tk).length 0) ([] : List Tk).length (tkR.flat [])) := by show V.ownsRow _ _ _ _ _ _; rw [hV]; exact own_emptyZ (Blk.new w3 35 #[]) zw
          have CV := Lib.hid (C3.out.kept kV (.inl (Nat.le_refl _)))
          have KV := Lib.hid (K3.out.trans (kV.wide (.inl (Nat.le_refl _))))
          have HV := Lib.hid hV
          have zV := kV.size
          clear kV hV O3 C3 K3
          go_upto_region 10 with fail
          rw [← HV.out]
          clear HV
          go_wp2_with fail
          with_reducible refine (below_any _ _ _ _ _ _ CV.out (by omega) (by omega)).mono ?_
          rintro e w8 ⟨q, rfl, ⟨hq0, hq1⟩, hc, hk⟩
          have O8 : Hid (w8.ownsRow w.heap.size 35 9 (.slice (some ⟨w3.heap.size, 0, none⟩) ([] : List Tk).length 0) ([] : List Tk).length (tkR.flat [])) := row_other OV.out (by simp [Value.ownBlock]; omega) hk
          have C8 := Lib.hid hc
          have K8 := Lib.hid (KV.out.trans hk)
          clear hc hk OV CV KV
          obtain ⟨R2, rfl⟩ : ∃ R2 : Nat, q = R2 := ⟨q.toNat, by omega⟩
          go_wp2_with fail
          go_loopw [3, 5] (fun v i wr => ∃ (m : Nat) (D : Option Addr) (d : Nat) (zs : List Tk), i = .int .i64 m ∧ v = .slice D zs.length d ∧ zs.length + m ≤ 61 ∧ Hid (wr.ownsRow w.heap.size 35 9 (.slice D zs.length d) zs.length (tkR.flat zs)) ∧ Hid (Cur wr g A c xs) ∧ Hid (Kept g (g + 1) w wr)) (fun _ i _ => (intOf i).toNat)
          case atStart => exact ⟨60 + R2, some ⟨w3.heap.size, 0, none⟩, 0, [], by rfl, by rfl, by simp; omega, O8, C8, K8⟩
          case round =>
            clear O8 C8 K8
            obtain ⟨m, D, d, zs, rfl, rfl, hzm, HO, HC, HK⟩ := hrel
            have zk := HK.out.size
            by_cases hm : 0 < m
            · have i1 : (0 : Int) < (m : Int) := by omega
              have HM := Lib.hid hm
              clear hm
              go_wp2_with fail
              with_reducible refine (draw10_any _ _ _ _ _ HC.out).mono ?_
              rintro e w4 ⟨y, rfl, hc, hk⟩
              have N0 : ∀ g', (Value.slice D zs.length d).ownBlock = some g' → w.heap.size ≤ g' := fun g' h => by
                cases D with
                | none => cases h
                | some a => exact (own_row_lo HO.out g' (by simpa [rowAt, Value.ownBlock] using h)).1
              have O4 := Lib.hid (row_other HO.out (fun h => by have := N0 _ h; omega) hk)
              have C4 := Lib.hid hc
              have K4 := Lib.hid (HK.out.trans hk)
              have z_w4 := hk.size
              clear hc hk HO HC HK N0
              go_wp2_with (at_builtin; go_must (refine wpList_app (R := tkR) rfl (.tmp 35) (.tmp 38) rfl HS.out w.heap.size D d zs rfl (row_kept O4.out (Kept.alloc0 w4 (.cells #[.int .i64 y.prog, .int .i64 y.pc, .int .i64 y.st, .int .i64 y.why, .int .i64 y.what, .int .i64 y.timer, .int .i64 y.reg, .int .i64 y.grp, .int .i64 y.err] 35))) (w4.heap.size + 1) (some ⟨w4.heap.size, 0, none⟩) 1 [y] rfl (rd_litT w4 y) (by simp [maxLen]; omega) (by simp; omega) (by simp; omega) ?_); intro D2 d2 w5 hown hgrow hat)
              have CA : Cur (w4.alloc (.cells #[.int .i64 y.prog, .int .i64 y.pc, .int .i64 y.st, .int .i64 y.why, .int .i64 y.what, .int .i64 y.timer, .int .i64 y.reg, .int .i64 y.grp, .int .i64 y.err] 35)) g A c xs := C4.out.kept (Kept.alloc0 _ _) (.inl (Nat.le_refl _))
              have NA : ∀ k, rowAt D = some k → w.heap.size ≤ k := fun k hk => (own_row_lo O4.out k hk).1
              have kg : Kept w.heap.size w5.heap.size (w4.alloc (.cells #[.int .i64 y.prog, .int .i64 y.pc, .int .i64 y.st, .int .i64 y.why, .int .i64 y.what, .int .i64 y.timer, .int .i64 y.reg, .int .i64 y.grp, .int .i64 y.err] 35)) w5 := Kept.of_grown hgrow (fun k hk => ⟨NA k hk, Nat.lt_of_lt_of_le (by have := (own_row_lo O4.out k hk).2; simp; omega) hgrow.size⟩)
              have C5 := Lib.hid (CA.kept kg (.inr (by omega)))
              have K5 := Lib.hid ((K4.out.alloc (.cells #[.int .i64 y.prog, .int .i64 y.pc, .int .i64 y.st, .int .i64 y.why, .int .i64 y.what, .int .i64 y.timer, .int .i64 y.reg, .int .i64 y.grp, .int .i64 y.err] 35)).trans2 kg (.inr (Nat.le_refl _)))
              have O5 := Lib.hid hown
              clear hown hgrow hat O4 C4 K4 CA NA kg
              go_roundw
              case rel => exact ⟨m - 1, D2, d2, zs ++ [y], by have := HM.out; exact congrArg (Value.int IntKind.i64) (by omega), by simp, (by have := HM.out; simp; omega), O5, C5, K5⟩
              case measure => have := HM.out; simp [intOf]; omega
            · have i1 : ¬ (0 : Int) < (m : Int) := by omega
              have hm0 : m = 0 := by omega
              subst hm0
              go_wp2_with fail
              go_ret
              exact ⟨zs, D, d, (by first | rfl | (rw [List.length_append]; rfl)), by simp at *; omega, OwnZ.of_row HO.out, HC.out, HK.out⟩
      · go_wp2_with fail
        with_reducible refine (drawAny10_any _ _ _ _ _ C2.out).mono ?_
        rintro e w6 ⟨y, rfl, hc, hk⟩
        have N0 : ∀ g', (Value.slice D zs.length d).ownBlock = some g' → w.heap.size ≤ g' := fun g' h => by
          cases D with
          | none => cases h
          | some a => exact (own_row_lo O2.out g' (by simpa [rowAt, Value.ownBlock] using h)).1
        have O6 := Lib.hid (row_other O2.out (fun h => by have := N0 _ h; omega) hk)
        have C6 := Lib.hid hc
        have K6 := Lib.hid (K2.out.trans hk)
        have z_w6 := hk.size
        clear hc hk O2 C2 K2 N0
        go_wp2_with (at_builtin; go_must (refine wpList_app (R := tkR) rfl (.tmp 20) (.tmp 23) rfl HS.out w.heap.size D d zs rfl (row_kept O6.out (Kept.alloc0 w6 (.cells #[.int .i64 y.prog, .int .i64 y.pc, .int .i64 y.st, .int .i64 y.why, .int .i64 y.what, .int .i64 y.timer, .int .i64 y.reg, .int .i64 y.grp, .int .i64 y.err] 35))) (w6.heap.size + 1) (some ⟨w6.heap.size, 0, none⟩) 1 [y] rfl (rd_litT w6 y) (by simp [maxLen]; omega) (by simp; omega) (by simp; omega) ?_); intro D7 d7 w7 hown hgrow hat)
        have CA : Cur (w6.alloc (.cells #[.int .i64 y.prog, .int .i64 y.pc, .int .i64 y.st, .int .i64 y.why, .int .i64 y.what, .int .i64 y.timer, .int .i64 y.reg, .int .i64 y.grp, .int .i64 y.err] 35)) g A c xs := C6.out.kept (Kept.alloc0 _ _) (.inl (Nat.le_refl _))
        have NA : ∀ k, rowAt D = some k → w.heap.size ≤ k := fun k hk => (own_row_lo O6.out k hk).1
        have kg : Kept w.heap.size w7.heap.size (w6.alloc (.cells #[.int .i64 y.prog, .int .i64 y.pc, .int .i64 y.st, .int .i64 y.why, .int .i64 y.what, .int .i64 y.timer, .int .i64 y.reg, .int .i64 y.grp, .int .i64 y.err] 35)) w7 := Kept.of_grown hgrow (fun k hk => ⟨NA k hk, Nat.lt_of_lt_of_le (by have := (own_row_lo O6.out k hk).2; simp; omega) hgrow.size⟩)
        have C7 := Lib.hid (CA.kept kg (.inr (by omega)))
        have K7 := Lib.hid ((K6.out.alloc (.cells #[.int .i64 y.prog, .int .i64 y.pc, .int .i64 y.st, .int .i64 y.why, .int .i64 y.what, .int .i64 y.timer, .int .i64 y.reg, .int .i64 y.grp, .int .i64 y.err] 35)).trans2 kg (.inr (Nat.le_refl _)))
        have O7 := Lib.hid hown
        clear hown hgrow hat O6 C6 K6 CA NA kg
        go_wp2_with fail
        with_reducible refine (once_any _ _ _ _ _ _ C7.out (by omega) (by omega)).mono ?_
        rintro e w3 ⟨b, rfl, hc, hk⟩
        have N0 : ∀ g', (Value.slice D7 (zs ++ [y]).length d7).ownBlock = some g' → w.heap.size ≤ g' := fun g' h => by
          cases D7 with
          | none => cases h
          | some a => exact (own_row_lo O7.out g' (by simpa [rowAt, Value.ownBlock] using h)).1
        have O3 := Lib.hid (row_other O7.out (fun h => by have := N0 _ h; omega) hk)
        have C3 := Lib.hid hc
        have K3 := Lib.hid (K7.out.trans hk)
        have z_w3 := hk.size
        clear hc hk O7 C7 K7 N0
        cases b
        · go_wp2_with fail
          go_ret
          exact ⟨(zs ++ [y]), D7, d7, (by first | rfl | (rw [List.length_append]; rfl)), by simp at *; omega, OwnZ.of_row O3.out, C3.out, K3.out⟩
        · obtain ⟨V, hV⟩ : ∃ V, V = w3.alloc (.cells #[] 35) := ⟨_, rfl⟩
          have kV : Kept 0 0 w3 V := by rw [hV]; exact Kept.alloc0 _ _
          have zw := K3.out.size
          have OV : Hid (V.ownsRow w.heap.size 35 9 (.slice (some ⟨w3.heap.size, 0, none⟩) ([] : List Tk).length 0) ([] : List Tk).length (tkR.flat [])) := by show V.ownsRow _ _ _ _ _ _; rw [hV]; exact own_emptyZ (Blk.new w3 35 #[]) zw
          have CV := Lib.hid (C3.out.kept kV (.inl (Nat.le_refl _)))
          have KV := Lib.hid (K3.out.trans (kV.wide (.inl (Nat.le_refl _))))
          have HV := Lib.hid hV
          have zV := kV.size
          clear kV hV O3 C3 K3
          go_upto_region 10 with fail
          rw [← HV.out]
          clear HV
          go_wp2_with fail
          with_reducible refine (below_any _ _ _ _ _ _ CV.out (by omega) (by omega)).mono ?_
          rintro e w8 ⟨q, rfl, ⟨hq0, hq1⟩, hc, hk⟩
          have O8 : Hid (w8.ownsRow w.heap.size 35 9 (.slice (some ⟨w3.heap.size, 0, none⟩) ([] : List Tk).length 0) ([] : List Tk).length (tkR.flat [])) := row_other OV.out (by simp [Value.ownBlock]; omega) hk
          have C8 := Lib.hid hc
          have K8 := Lib.hid (KV.out.trans hk)
          clear hc hk OV CV KV
          obtain ⟨R2, rfl⟩ : ∃ R2 : Nat, q = R2 := ⟨q.toNat, by omega⟩
          go_wp2_with fail
          go_loopw [3, 5] (fun v i wr => ∃ (m : Nat) (D : Option Addr) (d : Nat) (zs : List Tk), i = .int .i64 m ∧ v = .slice D zs.length d ∧ zs.length + m ≤ 61 ∧ Hid (wr.ownsRow w.heap.size 35 9 (.slice D zs.length d) zs.length (tkR.flat zs)) ∧ Hid (Cur wr g A c xs) ∧ Hid (Kept g (g + 1) w wr)) (fun _ i _ => (intOf i).toNat)
          case atStart => exact ⟨60 + R2, some ⟨w3.heap.size, 0, none⟩, 0, [], by rfl, by rfl, by simp; omega, O8, C8, K8⟩
          case round =>
            clear O8 C8 K8
            obtain ⟨m, D, d, zs, rfl, rfl, hzm, HO, HC, HK⟩ := hrel
            have zk := HK.out.size
            by_cases hm : 0 < m
            · have i1 : (0 : Int) < (m : Int) := by omega
              have HM := Lib.hid hm
              clear hm
              go_wp2_with fail
              with_reducible refine (draw10_any _ _ _ _ _ HC.out).mono ?_
              rintro e w4 ⟨y, rfl, hc, hk⟩
              have N0 : ∀ g', (Value.slice D zs.length d).ownBlock = some g' → w.heap.size ≤ g' := fun g' h => by
                cases D with
                | none => cases h
                | some a => exact (own_row_lo HO.out g' (by simpa [rowAt, Value.ownBlock] using h)).1
              have O4 := Lib.hid (row_other HO.out (fun h => by have := N0 _ h; omega) hk)
              have C4 := Lib.hid hc
              have K4 := Lib.hid (HK.out.trans hk)
              have z_w4 := hk.size
              clear hc hk HO HC HK N0
              go_wp2_with (at_builtin; go_must (refine wpList_app (R := tkR) rfl (.tmp 35) (.tmp 38) rfl HS.out w.heap.size D d zs rfl (row_kept O4.out (Kept.alloc0 w4 (.cells #[.int .i64 y.prog, .int .i64 y.pc, .int .i64 y.st, .int .i64 y.why, .int .i64 y.what, .int .i64 y.timer, .int .i64 y.reg, .int .i64 y.grp, .int .i64 y.err] 35))) (w4.heap.size + 1) (some ⟨w4.heap.size, 0, none⟩) 1 [y] rfl (rd_litT w4 y) (by simp [maxLen]; omega) (by simp; omega) (by simp; omega) ?_); intro D2 d2 w5 hown hgrow hat)
              have CA : Cur (w4.alloc (.cells #[.int .i64 y.prog, .int .i64 y.pc, .int .i64 y.st, .int .i64 y.why, .int .i64 y.what, .int .i64 y.timer, .int .i64 y.reg, .int .i64 y.grp, .int .i64 y.err] 35)) g A c xs := C4.out.kept (Kept.alloc0 _ _) (.inl (Nat.le_refl _))
              have NA : ∀ k, rowAt D = some k → w.heap.size ≤ k := fun k hk => (own_row_lo O4.out k hk).1
              have kg : Kept w.heap.size w5.heap.size (w4.alloc (.cells #[.int .i64 y.prog, .int .i64 y.pc, .int .i64 y.st, .int .i64 y.why, .int .i64 y.what, .int .i64 y.timer, .int .i64 y.reg, .int .i64 y.grp, .int .i64 y.err] 35)) w5 := Kept.of_grown hgrow (fun k hk => ⟨NA k hk, Nat.lt_of_lt_of_le (by have := (own_row_lo O4.out k hk).2; simp; omega) hgrow.size⟩)
              have C5 := Lib.hid (CA.kept kg (.inr (by omega)))
              have K5 := Lib.hid ((K4.out.alloc (.cells #[.int .i64 y.prog, .int .i64 y.pc, .int .i64 y.st, .int .i64 y.why, .int .i64 y.what, .int .i64 y.timer, .int .i64 y.reg, .int .i64 y.grp, .int .i64 y.err] 35)).trans2 kg (.inr (Nat.le_refl _)))
              have O5 := Lib.hid hown
              clear hown hgrow hat O4 C4 K4 CA NA kg
              go_roundw
              case rel => exact ⟨m - 1, D2, d2, zs ++ [y], by have := HM.out; exact congrArg (Value.int IntKind.i64) (by omega), by simp, (by have := HM.out; simp; omega), O5, C5, K5⟩
              case measure => have := HM.out; simp [intOf]; omega
            · have i1 : ¬ (0 : Int) < (m : Int) := by omega
              have hm0 : m = 0 := by omega
              subst hm0
              go_wp2_with fail
              go_ret
              exact ⟨zs, D, d, (by first | rfl | (rw [List.length_append]; rfl)), by simp at *; omega, OwnZ.of_row HO.out, HC.out, HK.out⟩
end Go.Proofs.Ytfpnpjpcjbndoaa
