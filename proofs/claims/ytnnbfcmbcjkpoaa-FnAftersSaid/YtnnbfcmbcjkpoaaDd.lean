/- The dice of the laws: a draw below n is from 0 to n - 1, and turns nothing but the dice; condition: the code can be read. -/
import Derived.Test.YtnnbfcmbcjkpoaaGr
namespace Go.Proofs.Ytnnbfcmbcjkpoaa
open Go.RowKit

/-- What the dice make of their state: a number from 0 to 16777215. -/
theorem dice_x (q : Int) : 0 ≤ wrap64 (bits BinOp.and IntKind.u64 (IntKind.u64.wrap q / 8589934592) 16777215) ∧ wrap64 (bits BinOp.and IntKind.u64 (IntKind.u64.wrap q / 8589934592) 16777215) ≤ 16777215 := by
  have hb : 0 ≤ IntKind.u64.wrap q ∧ IntKind.u64.wrap q < 18446744073709551616 := by rw [IntKind.wrap_u64]; omega
  rw [u64_and _ _ (by omega) (by omega) (by omega) (by omega)]
  have h : ((IntKind.u64.wrap q / 8589934592).toNat &&& (16777215 : Int).toNat) ≤ 16777215 := Nat.and_le_right
  generalize ((IntKind.u64.wrap q / 8589934592).toNat &&& (16777215 : Int).toNat) = m at h
  rw [IntWalk.wrap64_in _ (by omega)]
  omega

theorem dice_set {w : World} {g : Nat} {v : Value} {i : Int} {q : Int} (h : Blk w g 68 #[v, .int .i64 i, .int .u64 q]) (q' : Int) : Blk (w.setCell ⟨g, 2, none⟩ (.int .u64 q')).drew g 68 #[v, .int .i64 i, .int .u64 q'] := by
  have := h.set_ 2 (.int .u64 q')
  simpa using this.drew
theorem dice_step {w : World} {g : Nat} {v : Value} {i : Int} {q : Int} (h : Blk w g 68 #[v, .int .i64 i, .int .u64 q]) (i' : Int) : Blk (w.setCell ⟨g, 1, none⟩ (.int .i64 i')) g 68 #[v, .int .i64 i', .int .u64 q] := by
  have := h.set_ 1 (.int .i64 i')
  simpa using this
/-- What a draw below n leaves. -/
def DrawEnd (A : Option Addr) (m c g : Nat) (n : Int) (w : World) (e : Ending) (w' : World) : Prop :=
  ∃ (r : Int) (i' : Nat) (q' : Int), e = .returned (.int .i64 r) ∧ 0 ≤ r ∧ r < n ∧ i' ≤ m ∧ Blk w' g 68 #[.slice A m c, .int .i64 i', .int .u64 q'] ∧ Kept g (g + 1) w w'

set_option maxHeartbeats 800000 in
theorem roll_any (xs : List Int) (salt : Int) (A : Option Addr) (c B : Nat) (w : World) (hB : B ≤ w.heap.size) (h : Rd (Value.int .u8) w B A xs) (hl : xs.length ≤ 4096) :
    Calls Try.prog 11 #[.slice A xs.length c, .int .u64 salt] w fun e w' => ∃ q, e = .returned (.pointer (some ⟨w.heap.size, 0, none⟩)) ∧ Blk w' w.heap.size 68 #[.slice A xs.length c, .int .i64 0, .int .u64 q] ∧ Kept 0 0 w w' := by
  have H := Lib.hid h
  clear h
  go_enter Try.func11, Try.ntmps11
  go_wp2
  go_loopw [6] (fun i wr => ∃ k : Nat, k ≤ xs.length ∧ i = .int .i64 k ∧ Hid (∃ q, Blk wr w.heap.size 68 #[.slice A xs.length c, .int .i64 0, .int .u64 q]) ∧ Hid (Kept 0 0 w wr)) (fun i _ => xs.length - (intOf i).toNat)
  case atStart => exact ⟨0, Nat.zero_le _, rfl, ⟨_, Blk.new _ _ _⟩, Kept.alloc0 _ _⟩
  case round =>
    obtain ⟨k, hk, rfl, HB, HK⟩ := hrel
    obtain ⟨q, hq⟩ := HB.out
    have BQ := Lib.hid hq
    clear hq HB
    by_cases hlt : k < xs.length
    · obtain ⟨ad, rfl, hab, hc⟩ := (H.out.kept hB HK.out (.inl (Nat.le_refl _))).at_ hlt
      have c0 : wr.cell? ⟨w.heap.size, 2, none⟩ = some (.int .u64 q) := BQ.out.cell 2
      have c1 := BQ.out.frozen 2
      go_wp2
      go_region
      all_goals
        go_wp2
        go_roundw
        case rel => exact ⟨k + 1, by omega, by go_num, Lib.hid ⟨_, dice_set BQ.out _⟩, Lib.hid ((HK.out.setCell (.inl (by simp)) _).drew)⟩
        case measure => simp [intOf]; omega
    · go_wp2
      go_ret
      exact ⟨q, rfl, BQ.out, HK.out⟩

set_option maxHeartbeats 1600000 in
theorem dbelow_any (xs : List Int) (A : Option Addr) (c B g i : Nat) (q n : Int) (w : World) (hB : B ≤ g) (h : Rd (Value.int .u8) w B A xs) (hx : ∀ x ∈ xs, 0 ≤ x ∧ x ≤ 255) (hl : xs.length ≤ 4096) (hi : i ≤ xs.length) (hb : Blk w g 68 #[.slice A xs.length c, .int .i64 i, .int .u64 q]) (h1 : 1 ≤ n) (h2 : n ≤ 1000) :
    Calls Try.prog 12 #[.pointer (some ⟨g, 0, none⟩), .int .i64 n] w (DrawEnd A xs.length c g n w) := by
  have H := Lib.hid h
  have c2 := hb.cell 2
  have c3 := hb.frozen 2
  have hg := hb.lt
  have HB := Lib.hid hb
  have HX := Lib.hid hx
  clear h hb hx
  go_enter Try.func12, Try.ntmps12
  go_wp2
  clear c2 c3
  have hxb := dice_x (IntKind.u64.wrap (q * 6364136223846793005) + 1442695040888963407)
  generalize wrap64 (bits BinOp.and IntKind.u64 (IntKind.u64.wrap (IntKind.u64.wrap (q * 6364136223846793005) + 1442695040888963407) / 8589934592) 16777215) = x at hxb ⊢
  generalize bits BinOp.and IntKind.u64 (IntKind.u64.wrap (IntKind.u64.wrap (q * 6364136223846793005) + 1442695040888963407) / 8589934592) 16777215 = x1
  generalize IntKind.u64.wrap (IntKind.u64.wrap (q * 6364136223846793005) + 1442695040888963407) / 8589934592 = x2
  obtain ⟨q', hq'⟩ : ∃ q', q' = IntKind.u64.wrap (IntKind.u64.wrap (q * 6364136223846793005) + 1442695040888963407) := ⟨_, rfl⟩
  rw [← hq']
  clear hq'
  generalize IntKind.u64.wrap (q * 6364136223846793005) = x3
  obtain ⟨V, hV⟩ : ∃ V, V = w.setCell ⟨g, 2, none⟩ (.int .u64 q') := ⟨_, rfl⟩
  have BV : Hid (Blk V g 68 #[.slice A xs.length c, .int .i64 i, .int .u64 q']) := by show Blk _ _ _ _; rw [hV]; simpa using HB.out.set_ 2 (.int .u64 q')
  have kV : Kept g (g + 1) w V := by rw [hV]; exact (Kept.refl g (g + 1) w).setCell (p := ⟨g, 2, none⟩) (.inr ⟨Nat.le_refl _, Nat.lt_succ_self _⟩) _
  rw [← hV]
  clear hV HB
  have KV := Lib.hid kV
  have RV := Lib.hid (H.out.kept (by omega) kV (.inr hB))
  clear kV
  have c0 : V.cell? ⟨g, 0, none⟩ = some (.slice A xs.length c) := BV.out.cell 0
  have c1 : V.cell? ⟨g, 1, none⟩ = some (.int .i64 i) := BV.out.cell 1
  have c4 := BV.out.frozen 1
  by_cases hlt : i < xs.length
  · obtain ⟨ad, rfl, hab, hc⟩ := RV.out.at_ hlt
    have hbyte := HX.out xs[i] (List.getElem_mem hlt)
    have hi2 : (i : Int) < (xs.length : Int) := by omega
    go_quiet (fail)
    go_wp2
    go_quiet (fail)
    go_wp2
    go_ret
    refine ⟨(x + xs[i]) % n, i + 1, q', rfl, Int.emod_nonneg _ (by omega), Int.emod_lt_of_pos _ (by omega), by omega, ?_, ?_⟩
    · rw [show ((i + 1 : Nat) : Int) = (i : Int) + 1 from by omega]
      exact dice_step (w := V.drewN _) BV.out _
    · exact (KV.out.drewN _).setCell (p := ⟨g, 1, none⟩) (.inr ⟨Nat.le_refl _, Nat.lt_succ_self _⟩) _
  · have hge : ¬ (i : Int) < (xs.length : Int) := by omega
    go_quiet (fail)
    go_wp2
    go_ret
    exact ⟨x % n, i, q', rfl, Int.emod_nonneg _ (by omega), Int.emod_lt_of_pos _ (by omega), hi, BV.out, KV.out.drewN _⟩

/-- The dice over the code xs, in block g. -/
structure Dice (w : World) (g : Nat) (A : Option Addr) (c : Nat) (xs : List Int) : Prop where
  rd : Rd (Value.int .u8) w g A xs
  byte : ∀ x ∈ xs, 0 ≤ x ∧ x ≤ 255
  len : xs.length ≤ 4096
  blk : ∃ (i : Nat) (q : Int), i ≤ xs.length ∧ Blk w g 68 #[.slice A xs.length c, .int .i64 i, .int .u64 q]
theorem Dice.lt {w : World} {g c : Nat} {A : Option Addr} {xs : List Int} (h : Dice w g A c xs) : g < w.heap.size := by
  obtain ⟨_, _, _, hb⟩ := h.blk; exact hb.lt
theorem Dice.kept {w w' : World} {g c lo hi : Nat} {A : Option Addr} {xs : List Int} (h : Dice w g A c xs) (hk : Kept lo hi w w') (hr : hi ≤ lo ∨ g + 1 ≤ lo) : Dice w' g A c xs :=
  ⟨h.rd.kept (Nat.le_of_lt h.lt) hk (by omega), h.byte, h.len, by obtain ⟨i, q, hi, hb⟩ := h.blk; exact ⟨i, q, hi, hb.kept hk (by omega)⟩⟩
theorem rollD (xs : List Int) (salt : Int) (A : Option Addr) (c : Nat) (w : World) (h : Rd (Value.int .u8) w w.heap.size A xs) (hx : ∀ x ∈ xs, 0 ≤ x ∧ x ≤ 255) (hl : xs.length ≤ 4096) :
    Calls Try.prog 11 #[.slice A xs.length c, .int .u64 salt] w fun e w' => e = .returned (.pointer (some ⟨w.heap.size, 0, none⟩)) ∧ Dice w' w.heap.size A c xs ∧ Kept 0 0 w w' :=
  (roll_any xs salt A c _ w (Nat.le_refl _) h hl).mono fun _ _ ⟨q, he, hb, hk⟩ => ⟨he, ⟨h.kept (Nat.le_refl _) hk (.inl (Nat.le_refl _)), hx, hl, 0, q, Nat.zero_le _, hb⟩, hk⟩
/-- What a draw by the dice leaves. -/
def Rolled (n : Int) (g : Nat) (A : Option Addr) (c : Nat) (xs : List Int) (w : World) (e : Ending) (w' : World) : Prop :=
  ∃ r : Nat, e = .returned (.int .i64 r) ∧ (r : Int) < n ∧ Dice w' g A c xs ∧ Kept g (g + 1) w w'
theorem belowD (xs : List Int) (A : Option Addr) (c g : Nat) (n : Int) (w : World) (h : Dice w g A c xs) (h1 : 1 ≤ n) (h2 : n ≤ 1000) :
    Calls Try.prog 12 #[.pointer (some ⟨g, 0, none⟩), .int .i64 n] w (Rolled n g A c xs w) := by
  obtain ⟨i, q, hi, hb⟩ := h.blk
  refine (dbelow_any xs A c g g i q n w (Nat.le_refl _) h.rd h.byte h.len hi hb h1 h2).mono ?_
  rintro e w' ⟨r, i', q', rfl, r0, r1, hi', hb', hk⟩
  obtain ⟨r, rfl⟩ := Int.eq_ofNat_of_zero_le r0
  exact ⟨r, rfl, r1, ⟨h.rd.kept (Nat.le_of_lt h.lt) hk (.inr (Nat.le_refl _)), h.byte, h.len, i', q', hi', hb'⟩, hk⟩
end Go.Proofs.Ytnnbfcmbcjkpoaa
