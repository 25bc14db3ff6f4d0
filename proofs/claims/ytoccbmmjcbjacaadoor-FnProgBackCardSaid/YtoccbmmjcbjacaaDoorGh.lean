/- The draws of programs: each returns a list of at most thirteen instructions, in new memory, and turns nothing old but the cursor; condition: the code can be read and has at most 4096 bytes. -/
import Derived.Test.YtoccbmmjcbjacaaDoorGg
namespace Go.Proofs.YtoccbmmjcbjacaaDoor
open Go.RowKit Go.Sort

theorem own_litI3' (w : World) (x : Ins) : (w.alloc (.cells #[.int .i64 x.op, .int .i64 x.a, .int .i64 x.b] 43)).ownsRow w.heap.size 43 3 (.slice (some ⟨w.heap.size, 0, none⟩) 1 1) 1 (nsR.flat [x]) :=
  World.ownsRow_lit w #[.int .i64 x.op, .int .i64 x.a, .int .i64 x.b] 1 (Nat.le_refl _) (by unfold maxLen; omega) rfl
theorem rd_litI3' (w : World) (x : Ins) : RdR nsR (w.alloc (.cells #[.int .i64 x.op, .int .i64 x.a, .int .i64 x.b] 43)) (w.heap.size + 1) (some ⟨w.heap.size, 0, none⟩) [x] := by
  have := (OwnZ.rd (R := nsR) (OwnZ.of_row (own_litI3' w x))).2
  simpa using this
/-- What a draw of a program leaves. -/
def DrawnP (n : Nat) (g : Nat) (A : Option Addr) (c : Nat) (xs : List Int) (w : World) (e : Ending) (w' : World) : Prop :=
  ∃ (zs : List Ins) (D : Option Addr) (d : Nat), e = .returned (.slice D zs.length d) ∧ zs.length ≤ n ∧ OwnZ w' w.heap.size w'.heap.size 43 3 D zs.length d (nsR.flat zs) ∧ Cur w' g A c xs ∧ Kept g (g + 1) w w'
set_option maxHeartbeats 6400000 in
theorem draw9_any (xs : List Int) (A : Option Addr) (c g : Nat) (w : World) (h : Cur w g A c xs) :
    Calls Tryd.prog 38 #[.pointer (some ⟨g, 0, none⟩)] w (DrawnP 12 g A c xs w) := by
  have hg := h.lt
  have HS := Lib.hid nsSlice
  obtain ⟨W, hW⟩ : ∃ W, W = w.alloc (.cells #[] 43) := ⟨_, rfl⟩
  have kW : Kept 0 0 w W := by rw [hW]; exact Kept.alloc0 _ _
  have C0 := Lib.hid (h.kept kW (.inl (Nat.le_refl _)))
  have K0 : Hid (Kept g (g + 1) w W) := kW.wide (.inl (Nat.le_refl _))
  have HW := Lib.hid hW
  clear h kW hW
  go_enter Tryd.func38, Tryd.ntmps38
  go_wp2_with fail
  rw [← HW.out]
  with_reducible refine (below_any _ _ _ _ _ _ C0.out (by omega) (by omega)).mono ?_
  rintro e w1 ⟨r, rfl, ⟨hr0, hr1⟩, hc, hk⟩
  have C1 := Lib.hid hc
  have K1 := Lib.hid hk
  clear hc hk
  go_wp2_with fail
  with_reducible refine (once_any _ _ _ _ _ _ C1.out (by omega) (by omega)).mono ?_
  rintro e w2 ⟨b, rfl, hc, hk⟩
  have C2 := Lib.hid hc
  have KW0 := Lib.hid (K1.out.trans hk)
  have K2 := Lib.hid (K0.out.trans KW0.out)
  rw [HW.out] at KW0
  have KW := KW0
  clear hc hk C1 K1 C0 K0 KW0
  obtain ⟨R, rfl⟩ : ∃ R : Nat, r = R := ⟨r.toNat, by omega⟩
  cases b
  · go_wp2_with fail
    go_loopw [3, 4] (fun v i wr => ∃ (m : Nat) (D : Option Addr) (d : Nat) (zs : List Ins), i = .int .i64 m ∧ v = .slice D zs.length d ∧ zs.length + m ≤ 12 ∧ Hid (wr.ownsRow w.heap.size 43 3 (.slice D zs.length d) zs.length (nsR.flat zs)) ∧ Hid (Cur wr g A c xs) ∧ Hid (Kept g (g + 1) w wr)) (fun _ i _ => (intOf i).toNat)
    case atStart => exact ⟨R, _, _, [], by rfl, by rfl, by simp; omega, row_other (own_emptyZ (Blk.new w 43 #[]) (Nat.le_refl _)) (by simp [Value.ownBlock]; omega) KW.out, C2.out, K2.out⟩
    case round =>
      obtain ⟨m, D, d, zs, rfl, rfl, hzm, HO, HC, HK⟩ := hrel
      have zk := HK.out.size
      by_cases hm : 0 < m
      · have i1 : (0 : Int) < (m : Int) := by omega
        go_wp2_with fail
        with_reducible refine (drawIns_any _ _ _ _ _ HC.out).mono ?_
        rintro e w4 ⟨x, rfl, hc, hk⟩
        have N0 : ∀ g', (Value.slice D zs.length d).ownBlock = some g' → w.heap.size ≤ g' := fun g' h => by
          cases D with
          | none => cases h
          | some a => exact (own_row_lo HO.out g' (by simpa [rowAt, Value.ownBlock] using h)).1
        have O4 := Lib.hid (row_other HO.out (fun h => by have := N0 _ h; omega) hk)
        have C4 := Lib.hid hc
        have K4 := Lib.hid (HK.out.trans hk)
        have z4 := hk.size
        have HM := Lib.hid hm
        clear hc hk HO HC HK N0 hm
        go_wp2_with (at_builtin; go_must (refine wpList_app (R := nsR) rfl (.tmp 14) (.tmp 17) rfl HS.out w.heap.size D d zs rfl (row_kept O4.out (Kept.alloc0 w4 (.cells #[.int .i64 x.op, .int .i64 x.a, .int .i64 x.b] 43))) (w4.heap.size + 1) (some ⟨w4.heap.size, 0, none⟩) 1 [x] rfl (rd_litI3' w4 x) (by simp [maxLen]; omega) (by simp; omega) (by simp; omega) ?_); intro D2 d2 w5 hown hgrow hat)
        have CA : Cur (w4.alloc (.cells #[.int .i64 x.op, .int .i64 x.a, .int .i64 x.b] 43)) g A c xs := C4.out.kept (Kept.alloc0 _ _) (.inl (Nat.le_refl _))
        have NA : ∀ k, rowAt D = some k → w.heap.size ≤ k := fun k hk => (own_row_lo O4.out k hk).1
        have kg : Kept w.heap.size w5.heap.size (w4.alloc (.cells #[.int .i64 x.op, .int .i64 x.a, .int .i64 x.b] 43)) w5 := Kept.of_grown hgrow (fun k hk => ⟨NA k hk, Nat.lt_of_lt_of_le (by have := (own_row_lo O4.out k hk).2; simp; omega) hgrow.size⟩)
        have C5 := Lib.hid (CA.kept kg (.inr (by omega)))
        have K5 := Lib.hid ((K4.out.alloc (.cells #[.int .i64 x.op, .int .i64 x.a, .int .i64 x.b] 43)).trans2 kg (.inr (Nat.le_refl _)))
        have O5 := Lib.hid hown
        clear hown hgrow hat O4 C4 K4 CA NA kg
        go_roundw
        case rel => exact ⟨m - 1, D2, d2, zs ++ [x], by have := HM.out; exact congrArg (Value.int IntKind.i64) (by omega), by simp, (by have := HM.out; simp; omega), O5, C5, K5⟩
        case measure => have := HM.out; simp [intOf]; omega
      · have i1 : ¬ (0 : Int) < (m : Int) := by omega
        go_wp2_with fail
        go_ret
        exact ⟨zs, D, d, rfl, by omega, OwnZ.of_row HO.out, HC.out, HK.out⟩
  · go_wp2_with fail
    go_loopw [3, 4] (fun v i wr => ∃ (m : Nat) (D : Option Addr) (d : Nat) (zs : List Ins), i = .int .i64 m ∧ v = .slice D zs.length d ∧ zs.length + m ≤ 12 ∧ Hid (wr.ownsRow w.heap.size 43 3 (.slice D zs.length d) zs.length (nsR.flat zs)) ∧ Hid (Cur wr g A c xs) ∧ Hid (Kept g (g + 1) w wr)) (fun _ i _ => (intOf i).toNat)
    case atStart => exact ⟨12, _, _, [], by rfl, by rfl, by simp, row_other (own_emptyZ (Blk.new w 43 #[]) (Nat.le_refl _)) (by simp [Value.ownBlock]; omega) KW.out, C2.out, K2.out⟩
    case round =>
      obtain ⟨m, D, d, zs, rfl, rfl, hzm, HO, HC, HK⟩ := hrel
      have zk := HK.out.size
      by_cases hm : 0 < m
      · have i1 : (0 : Int) < (m : Int) := by omega
        go_wp2_with fail
        with_reducible refine (drawIns_any _ _ _ _ _ HC.out).mono ?_
        rintro e w4 ⟨x, rfl, hc, hk⟩
        have N0 : ∀ g', (Value.slice D zs.length d).ownBlock = some g' → w.heap.size ≤ g' := fun g' h => by
          cases D with
          | none => cases h
          | some a => exact (own_row_lo HO.out g' (by simpa [rowAt, Value.ownBlock] using h)).1
        have O4 := Lib.hid (row_other HO.out (fun h => by have := N0 _ h; omega) hk)
        have C4 := Lib.hid hc
        have K4 := Lib.hid (HK.out.trans hk)
        have z4 := hk.size
        have HM := Lib.hid hm
        clear hc hk HO HC HK N0 hm
        go_wp2_with (at_builtin; go_must (refine wpList_app (R := nsR) rfl (.tmp 14) (.tmp 17) rfl HS.out w.heap.size D d zs rfl (row_kept O4.out (Kept.alloc0 w4 (.cells #[.int .i64 x.op, .int .i64 x.a, .int .i64 x.b] 43))) (w4.heap.size + 1) (some ⟨w4.heap.size, 0, none⟩) 1 [x] rfl (rd_litI3' w4 x) (by simp [maxLen]; omega) (by simp; omega) (by simp; omega) ?_); intro D2 d2 w5 hown hgrow hat)
        have CA : Cur (w4.alloc (.cells #[.int .i64 x.op, .int .i64 x.a, .int .i64 x.b] 43)) g A c xs := C4.out.kept (Kept.alloc0 _ _) (.inl (Nat.le_refl _))
        have NA : ∀ k, rowAt D = some k → w.heap.size ≤ k := fun k hk => (own_row_lo O4.out k hk).1
        have kg : Kept w.heap.size w5.heap.size (w4.alloc (.cells #[.int .i64 x.op, .int .i64 x.a, .int .i64 x.b] 43)) w5 := Kept.of_grown hgrow (fun k hk => ⟨NA k hk, Nat.lt_of_lt_of_le (by have := (own_row_lo O4.out k hk).2; simp; omega) hgrow.size⟩)
        have C5 := Lib.hid (CA.kept kg (.inr (by omega)))
        have K5 := Lib.hid ((K4.out.alloc (.cells #[.int .i64 x.op, .int .i64 x.a, .int .i64 x.b] 43)).trans2 kg (.inr (Nat.le_refl _)))
        have O5 := Lib.hid hown
        clear hown hgrow hat O4 C4 K4 CA NA kg
        go_roundw
        case rel => exact ⟨m - 1, D2, d2, zs ++ [x], by have := HM.out; exact congrArg (Value.int IntKind.i64) (by omega), by simp, (by have := HM.out; simp; omega), O5, C5, K5⟩
        case measure => have := HM.out; simp [intOf]; omega
      · have i1 : ¬ (0 : Int) < (m : Int) := by omega
        go_wp2_with fail
        go_ret
        exact ⟨zs, D, d, rfl, by omega, OwnZ.of_row HO.out, HC.out, HK.out⟩
end Go.Proofs.YtoccbmmjcbjacaaDoor
