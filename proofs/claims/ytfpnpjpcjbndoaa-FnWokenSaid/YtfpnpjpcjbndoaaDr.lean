/- The draws of the laws: each draw from a code returns an int64 and turns nothing but the cursor; condition: the code can be read and has at most 4096 bytes. -/
import Derived.Test.YtfpnpjpcjbndoaaGr
namespace Go.Proofs.Ytfpnpjpcjbndoaa
open Go.RowKit

theorem big_any (A : Option Addr) (n c : Nat) (w : World) (hn : n ≤ maxLen) :
    Calls Try.prog 8 #[.slice A n c] w fun e w' => e = .returned (.bool (decide (4096 < n))) ∧ w = w' := by
  unfold maxLen at hn
  go_enter Try.func8, Try.ntmps8
  go_wp2
  go_ret
  exact ⟨ret_bool (by simp; omega), rfl⟩

theorem and255 (a : Int) : 0 ≤ bits BinOp.and IntKind.i64 a 255 ∧ bits BinOp.and IntKind.i64 a 255 ≤ 255 := by
  have h255 : (BitVec.ofInt 64 255).toNat = 255 := by decide
  have hx : (BitVec.ofInt 64 a).toNat &&& 255 ≤ 255 := Nat.and_le_right
  have e : bits BinOp.and IntKind.i64 a 255 = IntKind.i64.wrap ((BitVec.ofInt 64 a &&& BitVec.ofInt 64 255).toNat : Int) := rfl
  rw [e, BitVec.toNat_and, h255, IntKind.wrap_i64]
  omega

/-- A number that fits int64. -/
def Fits (x : Int) : Prop := -9223372036854775808 ≤ x ∧ x ≤ 9223372036854775807
/-- A cursor over the code xs, in block g. -/
structure Cur (w : World) (g : Nat) (A : Option Addr) (c : Nat) (xs : List Int) : Prop where
  rd : Rd (Value.int .u8) w g A xs
  byte : ∀ x ∈ xs, 0 ≤ x ∧ x ≤ 255
  len : xs.length ≤ 4096
  blk : ∃ (i : Nat) (h : Int), i ≤ xs.length ∧ Blk w g 63 #[.slice A xs.length c, .int .i64 i, .int .i64 h]
theorem Cur.lt {w : World} {g c : Nat} {A : Option Addr} {xs : List Int} (h : Cur w g A c xs) : g < w.heap.size := by
  obtain ⟨_, _, _, hb⟩ := h.blk; exact hb.lt
theorem Cur.kept {w w' : World} {g c lo hi : Nat} {A : Option Addr} {xs : List Int} (h : Cur w g A c xs) (hk : Kept lo hi w w') (hr : hi ≤ lo ∨ g + 1 ≤ lo) : Cur w' g A c xs :=
  ⟨h.rd.kept (Nat.le_of_lt h.lt) hk (by omega), h.byte, h.len, by obtain ⟨i, q, hi, hb⟩ := h.blk; exact ⟨i, q, hi, hb.kept hk (by omega)⟩⟩

set_option maxHeartbeats 400000 in
theorem new_any (xs : List Int) (A : Option Addr) (c : Nat) (w : World) (h : Rd (Value.int .u8) w w.heap.size A xs) (hx : ∀ x ∈ xs, 0 ≤ x ∧ x ≤ 255) (hl : xs.length ≤ 4096) :
    Calls Try.prog 28 #[.slice A xs.length c] w fun e w' => e = .returned (.pointer (some ⟨w.heap.size, 0, none⟩)) ∧ Cur w' w.heap.size A c xs ∧ Kept 0 0 w w' := by
  have H := Lib.hid h
  have HX := Lib.hid hx
  clear h hx
  go_enter Try.func28, Try.ntmps28
  go_wp2
  go_loop [3, 4] (fun q i => ∃ (k : Nat) (r : Int), k ≤ xs.length ∧ i = .int .i64 k ∧ q = .int .i64 r) (fun _ i => xs.length - (intOf i).toNat)
  case atStart => exact ⟨0, _, Nat.zero_le _, rfl, rfl⟩
  case round =>
    obtain ⟨k, r, hk, rfl, rfl⟩ := hrel
    by_cases hlt : k < xs.length
    · obtain ⟨ad, rfl, hab, hc⟩ := H.out.at_ hlt
      go_wp2
      go_round
      case rel => exact ⟨k + 1, _, by omega, by go_num, rfl⟩
      case measure => simp [intOf]; omega
    · go_wp2
      go_ret
      have kk := Kept.alloc0 w (.cells #[.slice A xs.length c, .int .i64 0, .int .i64 r] 63)
      exact ⟨rfl, ⟨H.out.kept (Nat.le_refl _) kk (.inl (Nat.le_refl _)), HX.out, hl, 0, r, Nat.zero_le _, Blk.new _ _ _⟩, kk⟩

theorem cur_step {w : World} {g : Nat} {v : Value} {i : Int} {q : Int} (h : Blk w g 63 #[v, .int .i64 i, .int .i64 q]) (i' : Int) : Blk (w.setCell ⟨g, 1, none⟩ (.int .i64 i')) g 63 #[v, .int .i64 i', .int .i64 q] := by
  have := h.set_ 1 (.int .i64 i')
  simpa using this

theorem cur_next {V : World} {g c i : Nat} {A : Option Addr} {xs : List Int} {q : Int} (hb : Blk V g 63 #[.slice A xs.length c, .int .i64 i, .int .i64 q]) (hr : Rd (Value.int .u8) V g A xs) (hx : ∀ x ∈ xs, 0 ≤ x ∧ x ≤ 255) (hl : xs.length ≤ 4096) (hi : i < xs.length) :
    Cur (V.setCell ⟨g, 1, none⟩ (.int .i64 ((i : Int) + 1))) g A c xs := by
  have k1 : Kept g (g + 1) V (V.setCell ⟨g, 1, none⟩ (.int .i64 ((i : Int) + 1))) := (Kept.refl _ _ _).setCell (p := ⟨g, 1, none⟩) (.inr ⟨Nat.le_refl _, Nat.lt_succ_self _⟩) _
  refine ⟨hr.kept (Nat.le_of_lt hb.lt) k1 (.inr (Nat.le_refl _)), hx, hl, i + 1, q, by omega, ?_⟩
  rw [show ((i + 1 : Nat) : Int) = (i : Int) + 1 from by omega]
  exact cur_step hb _

/-- What a draw leaves: a number with P, and the cursor. -/
def Drawn (P : Int → Prop) (g : Nat) (A : Option Addr) (c : Nat) (xs : List Int) (w : World) (e : Ending) (w' : World) : Prop :=
  ∃ r : Int, e = .returned (.int .i64 r) ∧ P r ∧ Cur w' g A c xs ∧ Kept g (g + 1) w w'

set_option maxHeartbeats 1600000 in
theorem byte_any (xs : List Int) (A : Option Addr) (c g : Nat) (w : World) (h : Cur w g A c xs) :
    Calls Try.prog 59 #[.pointer (some ⟨g, 0, none⟩)] w (Drawn (fun r => 0 ≤ r ∧ r ≤ 255) g A c xs w) := by
  obtain ⟨i, q, hi, hb⟩ := h.blk
  have H := Lib.hid h
  have c2 := hb.cell 2
  have c3 := hb.frozen 2
  have hg := hb.lt
  have HB := Lib.hid hb
  have hl := h.len
  clear h hb
  go_enter Try.func59, Try.ntmps59
  go_wp2
  clear c2 c3
  obtain ⟨q', hq'⟩ : ∃ q', q' = wrap64 (wrap64 (q * 6364136223846793005) + 1442695040888963407) := ⟨_, rfl⟩
  rw [← hq']
  clear hq'
  generalize wrap64 (q * 6364136223846793005) = x3
  obtain ⟨V, hV⟩ : ∃ V, V = w.setCell ⟨g, 2, none⟩ (.int .i64 q') := ⟨_, rfl⟩
  have BV : Hid (Blk V g 63 #[.slice A xs.length c, .int .i64 i, .int .i64 q']) := by show Blk _ _ _ _; rw [hV]; simpa using HB.out.set_ 2 (.int .i64 q')
  have kV : Kept g (g + 1) w V := by rw [hV]; exact (Kept.refl g (g + 1) w).setCell (p := ⟨g, 2, none⟩) (.inr ⟨Nat.le_refl _, Nat.lt_succ_self _⟩) _
  rw [← hV]
  clear hV HB
  have KV := Lib.hid kV
  have RV := Lib.hid (H.out.rd.kept (Nat.le_of_lt hg) kV (.inr (Nat.le_refl _)))
  have HX := Lib.hid H.out.byte
  clear kV H
  have c0 : V.cell? ⟨g, 0, none⟩ = some (.slice A xs.length c) := BV.out.cell 0
  have c1 : V.cell? ⟨g, 1, none⟩ = some (.int .i64 i) := BV.out.cell 1
  have c2 : V.cell? ⟨g, 2, none⟩ = some (.int .i64 q') := BV.out.cell 2
  have c4 := BV.out.frozen 1
  by_cases hlt : i < xs.length
  · obtain ⟨ad, rfl, hab, hc⟩ := RV.out.at_ hlt
    have hi2 : (i : Int) < (xs.length : Int) := by omega
    go_quiet (fail)
    go_wp2
    go_quiet (fail)
    go_wp2
    go_quiet (fail)
    go_wp2
    go_ret
    exact ⟨_, rfl, and255 _, cur_next (V := V.drewN _) BV.out RV.out HX.out hl hlt, (KV.out.drewN _).setCell (p := ⟨g, 1, none⟩) (.inr ⟨Nat.le_refl _, Nat.lt_succ_self _⟩) _⟩
  · have hge : ¬ (i : Int) < (xs.length : Int) := by omega
    go_quiet (fail)
    go_wp2
    go_quiet (fail)
    go_wp2
    go_ret
    exact ⟨_, rfl, and255 _, ⟨RV.out, HX.out, hl, i, q', hi, BV.out⟩, (KV.out.drewN _).drewN _⟩

set_option maxHeartbeats 400000 in
theorem below_any (xs : List Int) (A : Option Addr) (c g : Nat) (n : Int) (w : World) (h : Cur w g A c xs) (h1 : 1 ≤ n) (h2 : n ≤ 256) :
    Calls Try.prog 42 #[.pointer (some ⟨g, 0, none⟩), .int .i64 n] w (Drawn (fun r => 0 ≤ r ∧ r < n) g A c xs w) := by
  have H := Lib.hid h
  clear h
  go_enter Try.func42, Try.ntmps42
  go_wp2_with fail
  with_reducible refine (byte_any _ _ _ _ _ H.out).mono ?_
  rintro e w1 ⟨r, rfl, ⟨hr0, hr1⟩, hc, hk⟩
  have HC := Lib.hid hc
  have HK := Lib.hid hk
  clear hc hk
  go_wp2
  go_ret
  exact ⟨r % n, rfl, ⟨Int.emod_nonneg _ (by omega), Int.emod_lt_of_pos _ (by omega)⟩, HC.out, HK.out⟩

set_option maxHeartbeats 400000 in
theorem from_any (xs : List Int) (A : Option Addr) (c g : Nat) (lo hi : Int) (w : World) (h : Cur w g A c xs) (h0 : -1000000 ≤ lo) (h1 : lo ≤ hi) (h2 : hi - lo ≤ 255) (h3 : hi ≤ 1000000) :
    Calls Try.prog 61 #[.pointer (some ⟨g, 0, none⟩), .int .i64 lo, .int .i64 hi] w (Drawn (fun r => lo ≤ r ∧ r ≤ hi) g A c xs w) := by
  have H := Lib.hid h
  clear h
  go_enter Try.func61, Try.ntmps61
  go_wp2_with fail
  with_reducible refine (below_any _ _ _ _ _ _ H.out (by omega) (by omega)).mono ?_
  rintro e w1 ⟨r, rfl, ⟨hr0, hr1⟩, hc, hk⟩
  have HC := Lib.hid hc
  have HK := Lib.hid hk
  clear hc hk
  go_wp2
  go_ret
  exact ⟨lo + r, rfl, by omega, HC.out, HK.out⟩

def oddCells : Array Value := #[.int .i64 (-1), .int .i64 0, .int .i64 1, .int .i64 2147483648, .int .i64 (-2147483648), .int .i64 1099511627776, .int .i64 4611686018427387904, .int .i64 (-4611686018427387904), .int .i64 9223372036854775807, .int .i64 (-9223372036854775808)]
theorem odd_cell (k : Nat) (hk : k < 10) : ∃ v, oddCells[k]? = some (.int .i64 v) ∧ Fits v := by
  rcases (by omega : k = 0 ∨ k = 1 ∨ k = 2 ∨ k = 3 ∨ k = 4 ∨ k = 5 ∨ k = 6 ∨ k = 7 ∨ k = 8 ∨ k = 9) with rfl | rfl | rfl | rfl | rfl | rfl | rfl | rfl | rfl | rfl <;>
    exact ⟨_, rfl, by unfold Fits; omega⟩
set_option maxHeartbeats 800000 in
theorem odd_any (xs : List Int) (A : Option Addr) (c g : Nat) (w : World) (h : Cur w g A c xs) :
    Calls Try.prog 43 #[.pointer (some ⟨g, 0, none⟩)] w (Drawn Fits g A c xs w) := by
  have H := Lib.hid h
  have hg := h.lt
  clear h
  go_enter Try.func43, Try.ntmps43
  go_wp2_with fail
  with_reducible refine (below_any _ _ _ _ _ _ (H.out.kept (Kept.alloc0 _ _) (.inl (Nat.le_refl _))) (by omega) (by omega)).mono ?_
  rintro e w1 ⟨r, rfl, ⟨hr0, hr1⟩, hc, hk⟩
  obtain ⟨k, rfl⟩ := Int.eq_ofNat_of_zero_le hr0
  obtain ⟨v, hv, hf⟩ := odd_cell k (by omega)
  have hb : Blk w1 w.heap.size 2 oddCells := (Blk.new w 2 oddCells).kept hk (by omega)
  have c1 : w1.cell? ⟨w.heap.size, k, none⟩ = some (.int .i64 v) := (hb.cell k).trans hv
  have HC := Lib.hid hc
  have HK := Lib.hid ((Kept.alloc0 w (.cells oddCells 2)).wide (.inl (Nat.le_refl _)) |>.trans hk)
  have HF := Lib.hid hf
  clear hc hk hf hb hv
  go_wp2
  go_ret
  exact ⟨v, rfl, HF.out, HC.out, HK.out⟩

theorem fits_small {x : Int} (h : -1000000 ≤ x ∧ x ≤ 1000000) : Fits x := by unfold Fits; omega
end Go.Proofs.Ytfpnpjpcjbndoaa
