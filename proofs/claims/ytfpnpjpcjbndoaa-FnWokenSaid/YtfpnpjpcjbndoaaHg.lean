/- Draws of yes or no, of numbers up to two millions, and of numbers about a bound; condition: the code can be read and has at most 4096 bytes. -/
import Derived.Test.YtfpnpjpcjbndoaaDr
import Derived.Test.YtfpnpjpcjbndoaaNb
import Derived.Deep.DeepCutAuto
namespace Go.Proofs.Ytfpnpjpcjbndoaa
open Go.RowKit Go.Sort

/-- What a draw of yes or no leaves. -/
def DrawnB (g : Nat) (A : Option Addr) (c : Nat) (xs : List Int) (w : World) (e : Ending) (w' : World) : Prop :=
  ∃ b : Bool, e = .returned (.bool b) ∧ Cur w' g A c xs ∧ Kept g (g + 1) w w'
set_option maxHeartbeats 400000 in
theorem once_any (xs : List Int) (A : Option Addr) (c g : Nat) (n : Int) (w : World) (h : Cur w g A c xs) (h1 : 1 ≤ n) (h2 : n ≤ 256) :
    Calls Try.prog 41 #[.pointer (some ⟨g, 0, none⟩), .int .i64 n] w (DrawnB g A c xs w) := by
  have H := Lib.hid h
  clear h
  go_enter Try.func41, Try.ntmps41
  go_wp2_with fail
  with_reducible refine (below_any _ _ _ _ _ _ H.out h1 h2).mono ?_
  rintro e w1 ⟨r, rfl, ⟨hr0, hr1⟩, hc, hk⟩
  have HC := Lib.hid hc
  have HK := Lib.hid hk
  clear hc hk
  go_wp2
  go_ret
  exact ⟨r == 0, rfl, HC.out, HK.out⟩

set_option maxHeartbeats 800000 in
theorem belowX_any (xs : List Int) (A : Option Addr) (c g : Nat) (n : Int) (w : World) (h : Cur w g A c xs) (h1 : 257 ≤ n) (h2 : n ≤ 2000000) :
    Calls Try.prog 42 #[.pointer (some ⟨g, 0, none⟩), .int .i64 n] w (Drawn Fits g A c xs w) := by
  have H := Lib.hid h
  clear h
  go_enter Try.func42, Try.ntmps42
  go_wp2_with fail
  with_reducible refine (byte_any _ _ _ _ _ H.out).mono ?_
  rintro e w1 ⟨r1, rfl, ⟨hr0, hr1⟩, hc, hk⟩
  have HC1 := Lib.hid hc
  have HK1 := Lib.hid hk
  clear hc hk H
  go_wp2_with fail
  with_reducible refine (byte_any _ _ _ _ _ HC1.out).mono ?_
  rintro e w2 ⟨r2, rfl, ⟨hr2, hr3⟩, hc, hk⟩
  have HC2 := Lib.hid hc
  have HK2 := Lib.hid (HK1.out.trans hk)
  clear hc hk HC1 HK1
  go_wp2_with fail
  with_reducible refine (byte_any _ _ _ _ _ HC2.out).mono ?_
  rintro e w3 ⟨r3, rfl, ⟨hr4, hr5⟩, hc, hk⟩
  have HC3 := Lib.hid hc
  have HK3 := Lib.hid (HK2.out.trans hk)
  clear hc hk HC2 HK2
  go_wp2_with fail
  with_reducible refine (byte_any _ _ _ _ _ HC3.out).mono ?_
  rintro e w4 ⟨r4, rfl, ⟨hr6, hr7⟩, hc, hk⟩
  have HC4 := Lib.hid hc
  have HK4 := Lib.hid (HK3.out.trans hk)
  clear hc hk HC3 HK3
  go_wp2
  go_ret
  have a1 := Int.emod_nonneg (r1 * 16777216 + r2 * 65536 + r3 * 256 + r4) (show n ≠ 0 by omega)
  have a2 := Int.emod_lt_of_pos (r1 * 16777216 + r2 * 65536 + r3 * 256 + r4) (show 0 < n by omega)
  exact ⟨_, rfl, by unfold Fits; omega, HC4.out, HK4.out⟩

theorem minN_any (m : Int) (h : 4 ≤ m) (w : World) : Calls Try.prog 44 #[.int .i64 m, .int .i64 4] w fun e w' => e = .returned (.int .i64 4) ∧ w = w' := by
  have h1 : ¬ m < 4 := by omega
  go_enter Try.func44, Try.ntmps44
  go_wp2
  go_ret
  exact ⟨rfl, rfl⟩
set_option maxHeartbeats 400000 in
theorem belowY_any (xs : List Int) (A : Option Addr) (c g : Nat) (n : Int) (w : World) (h : Cur w g A c xs) (h1 : 1 ≤ n) (h2 : n ≤ 2000000) :
    Calls Try.prog 42 #[.pointer (some ⟨g, 0, none⟩), .int .i64 n] w (Drawn (fun _ => True) g A c xs w) := by
  rcases Int.lt_or_le 256 n with h' | h'
  · exact (belowX_any xs A c g n w h (by omega) h2).mono fun e w' ⟨r, he, _, hc, hk⟩ => ⟨r, he, trivial, hc, hk⟩
  · exact (below_any xs A c g n w h h1 h').mono fun e w' ⟨r, he, _, hc, hk⟩ => ⟨r, he, trivial, hc, hk⟩
set_option maxHeartbeats 1600000 in
theorem numN_any (xs : List Int) (A : Option Addr) (c g : Nat) (m : Int) (w : World) (h : Cur w g A c xs) (hm1 : 4 ≤ m) (hm2 : m ≤ 1000000) :
    Calls Try.prog 30 #[.pointer (some ⟨g, 0, none⟩), .int .i64 m] w (Drawn (fun _ => True) g A c xs w) := by
  have H := Lib.hid h
  clear h
  go_enter Try.func30, Try.ntmps30
  go_wp2_with fail
  with_reducible refine (once_any _ _ _ _ _ _ H.out (by omega) (by omega)).mono ?_
  rintro e w1 ⟨b, rfl, hc, hk⟩
  have HC1 := Lib.hid hc
  have HK1 := Lib.hid hk
  clear hc hk H
  cases b with
  | true =>
    go_wp2_with fail
    with_reducible refine (odd_any _ _ _ _ _ HC1.out).mono ?_
    rintro e w2 ⟨o, rfl, -, hc, hk⟩
    have HC2 := Lib.hid (hc.kept (Kept.alloc0 w2 (.cells #[.int .i64 (-1), .int .i64 m, .int .i64 (m + 1), .int .i64 o] 2)) (.inl (Nat.le_refl _)))
    have HK2 := Lib.hid (HK1.out.trans hk |>.alloc (.cells #[.int .i64 (-1), .int .i64 m, .int .i64 (m + 1), .int .i64 o] 2))
    have hg := hc.lt
    clear hc hk HC1 HK1
    go_wp2_with fail
    with_reducible refine (below_any _ _ _ _ _ _ HC2.out (by omega) (by omega)).mono ?_
    rintro e w3 ⟨r, rfl, ⟨hr0, hr1⟩, hc, hk⟩
    have b : Blk w3 w2.heap.size 2 #[.int .i64 (-1), .int .i64 m, .int .i64 (m + 1), .int .i64 o] := (Blk.new _ _ _).kept hk (by omega)
    have HC3 := Lib.hid hc
    have HK3 := Lib.hid (HK2.out.trans hk)
    obtain ⟨k, rfl⟩ := Int.eq_ofNat_of_zero_le hr0
    obtain ⟨q, hq⟩ : ∃ q : Int, w3.cell? ⟨w2.heap.size, k, none⟩ = some (.int .i64 q) := by
      rcases (by omega : k = 0 ∨ k = 1 ∨ k = 2 ∨ k = 3) with rfl | rfl | rfl | rfl
      · exact ⟨_, b.cell 0⟩
      · exact ⟨_, b.cell 1⟩
      · exact ⟨_, b.cell 2⟩
      · exact ⟨_, b.cell 3⟩
    clear hc hk b HC2 HK2
    go_wp2
    go_ret
    exact ⟨q, rfl, trivial, HC3.out, HK3.out⟩
  | false =>
    go_wp2_with fail
    with_reducible refine (once_any _ _ _ _ _ _ HC1.out (by omega) (by omega)).mono ?_
    rintro e w2 ⟨b, rfl, hc, hk⟩
    have HC2 := Lib.hid hc
    have HK2 := Lib.hid (HK1.out.trans hk)
    clear hc hk HC1 HK1
    cases b with
    | true =>
      go_wp2_with fail
      with_reducible refine (minN_any _ hm1 _).mono ?_
      rintro e w' ⟨rfl, rfl⟩
      go_wp2_with fail
      with_reducible refine (below_any _ _ _ _ _ _ HC2.out (by omega) (by omega)).mono ?_
      rintro e w3 ⟨r, rfl, -, hc, hk⟩
      have HC3 := Lib.hid hc
      have HK3 := Lib.hid (HK2.out.trans hk)
      clear hc hk
      go_wp2
      go_ret
      exact ⟨_, rfl, trivial, HC3.out, HK3.out⟩
    | false =>
      go_wp2_with fail
      with_reducible refine (belowY_any _ _ _ _ _ _ HC2.out (by omega) (by omega)).mono ?_
      rintro e w3 ⟨r, rfl, -, hc, hk⟩
      have HC3 := Lib.hid hc
      have HK3 := Lib.hid (HK2.out.trans hk)
      clear hc hk
      go_wp2
      go_ret
      exact ⟨_, rfl, trivial, HC3.out, HK3.out⟩

end Go.Proofs.Ytfpnpjpcjbndoaa
