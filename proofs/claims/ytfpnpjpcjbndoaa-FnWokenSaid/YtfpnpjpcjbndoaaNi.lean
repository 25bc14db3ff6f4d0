/- Slices of int64: how they lie in memory, and the helper functions of the laws over them (compare, mark, check marks); no condition beyond what each theorem states. -/
import Derived.Test.YtfpnpjpcjbndoaaRc
namespace Go.Proofs.Ytfpnpjpcjbndoaa
open Go.RowKit Go.Sort

/-- How an int64 lies in memory. -/
def iR : Rec Int := ⟨1, fun x => [.int .i64 x], fun _ => rfl, by decide, fun x u hu => by
  simp only [List.mem_cons, List.not_mem_nil, or_false] at hu
  rcases hu with rfl; rfl⟩
theorem iR_k : iR.k = 1 := rfl
theorem Try.infoI : (Try.prog.info? 2).map (fun i => (i.zero, i.size, i.bytes)) = some (some (.int .i64 0), 1, 8) := by kernel_rfl
theorem iSlice : SliceOf Try.prog 29 2 iR.k 8 := SliceOf.of Try.underlying29 Try.infoI rfl
/-- What the walk wants to know of element k. -/
theorem RdR.i {w : World} {B : Nat} {A : Option Addr} {xs : List Int} {k : Nat} (h : RdR iR w B A xs) (hk : k < xs.length) :
    ∃ ad, A = some ad ∧ ad.block < B ∧ w.cell? (ad.add k) = some (.int .i64 xs[k]) := by
  obtain ⟨ad, e, hb, hc⟩ := h.at_ hk
  refine ⟨ad, e, hb, ?_⟩
  have := hc 0 _ rfl
  rwa [iR_k, Nat.mul_one, Nat.add_zero] at this
theorem iR_flat (xs : List Int) : iR.flat xs = xs.map (Value.int .i64) := by
  induction xs with
  | nil => rfl
  | cons x r ih => rw [Rec.flat_cons, ih]; rfl

set_option maxHeartbeats 800000 in
theorem eqIS_any (xs : List Int) (A A' : Option Addr) (c c' B B' : Nat) (w : World) (h : RdR iR w B A xs) (h' : RdR iR w B' A' xs) :
    Calls Try.prog 21 #[.slice A xs.length c, .slice A' xs.length c'] w fun e w' => e = .returned (.bool true) ∧ Kept 0 0 w w' := by
  have hx := h.1
  unfold maxLen at hx
  have H := Lib.hid h
  have H' := Lib.hid h'
  clear h h'
  have hb : (((xs.length : Int)) != ((xs.length : Int))) = false := by simp
  go_enter Try.func21, Try.ntmps21
  go_wp2
  go_loopw [5] (fun i wr => ∃ k : Nat, k ≤ xs.length ∧ i = .int .i64 k ∧ Hid (Kept 0 0 w wr) ∧ Hid (RdR iR wr B A xs) ∧ Hid (RdR iR wr B' A' xs)) (fun i _ => xs.length - (intOf i).toNat)
  case atStart => exact ⟨0, Nat.zero_le _, rfl, Lib.hid (Kept.refl _ _ _), H, H'⟩
  case round =>
    clear H H'
    obtain ⟨k, hk, rfl, HK, H, H'⟩ := hrel
    by_cases hlt : k < xs.length
    · obtain ⟨ad, rfl, _, c0⟩ := H.out.i hlt
      obtain ⟨ad', rfl, _, d0⟩ := H'.out.i hlt
      have i1 : (k : Int) < (xs.length : Int) := by omega
      go_wp2_with fail
      go_quiet (fail)
      clear c0 d0
      go_wp2
      go_roundw
      case rel => exact ⟨k + 1, by omega, by go_num, Lib.hid (HK.out.drewN _), H, H'⟩
      case measure => simp [intOf]; omega
    · go_wp2
      go_ret
      exact ⟨rfl, HK.out⟩

/-- What the marks write: k, k+1, .. -/
def marksI (k : Int) (n : Nat) : List Int := (List.range n).map fun i : Nat => k + (i : Int)
theorem marksI_len (k : Int) (n : Nat) : (marksI k n).length = n := by simp [marksI]
theorem marksI_at (k : Int) (n i : Nat) (h : i < (marksI k n).length) : (marksI k n)[i] = k + (i : Int) := by simp [marksI]

set_option maxHeartbeats 800000 in
theorem heldIS_any (k : Int) (n : Nat) (A : Option Addr) (c B : Nat) (w : World) (h : RdR iR w B A (marksI k n)) (hk0 : 0 ≤ k) (hk : k ≤ 10000000) (hn : n ≤ 1048576) :
    Calls Try.prog 24 #[.slice A n c, .int .i64 k] w fun e w' => e = .returned (.int .i64 (k + (n : Int))) ∧ w = w' := by
  have H := Lib.hid h
  clear h
  go_enter Try.func24, Try.ntmps24
  go_wp2
  go_loop [1, 5] (fun q i => ∃ j : Nat, j ≤ n ∧ i = .int .i64 j ∧ q = .int .i64 (k + (j : Int))) (fun _ i => n - (intOf i).toNat)
  case atStart => exact ⟨0, Nat.zero_le _, rfl, by go_num⟩
  case round =>
    obtain ⟨j, hj, rfl, rfl⟩ := hrel
    by_cases hlt : j < n
    · have hm : j < (marksI k n).length := by rw [marksI_len]; exact hlt
      obtain ⟨ad, rfl, _, c0⟩ := H.out.i hm
      rw [marksI_at] at c0
      have i1 : (j : Int) < (n : Int) := by omega
      have qq : ((k + (j : Int)) != (k + (j : Int))) = false := by simp
      go_wp2
      go_round
      case rel => exact ⟨j + 1, by omega, by go_num, by rw [show k + ((j + 1 : Nat) : Int) = k + (j : Int) + 1 from by omega]⟩
      case measure => simp [intOf]; omega
    · go_wp2
      go_ret
      exact ⟨ret_int (by omega), rfl⟩

/-- The first j numbers of a row marked. -/
def iMarked (k : Int) (ys : List Int) (j : Nat) : List Int := marksI k j ++ ys.drop j
theorem iMarked_zero (k : Int) (ys : List Int) : iMarked k ys 0 = ys := by simp [iMarked, marksI]
theorem iMarked_len (k : Int) (ys : List Int) (j : Nat) (h : j ≤ ys.length) : (iMarked k ys j).length = ys.length := by simp [iMarked, marksI_len]; omega
theorem iMarked_all (k : Int) (ys : List Int) : iMarked k ys ys.length = marksI k ys.length := by simp [iMarked]
theorem iMarked_at (k : Int) (ys : List Int) (j : Nat) (h : j < ys.length) : (iMarked k ys j)[j]'(by rw [iMarked_len k ys j (Nat.le_of_lt h)]; exact h) = ys[j] := by
  unfold iMarked
  rw [List.getElem_append_right (by rw [marksI_len]; exact Nat.le_refl _)]
  simp [marksI_len]
theorem iMarked_succ (k : Int) (ys : List Int) (j : Nat) (h : j < ys.length) : (iMarked k ys j).set j (k + (j : Int)) = iMarked k ys (j + 1) := by
  unfold iMarked
  rw [List.set_append_right _ _ (by rw [marksI_len]; exact Nat.le_refl _), marksI_len, Nat.sub_self, List.drop_eq_getElem_cons h, List.set_cons_zero]
  simp [marksI, List.range_succ]
theorem own_putI {w : World} {base e n c g : Nat} {xs : List Int} (h : w.ownsRow base e 1 (.slice (some ⟨g, 0, none⟩) n c) n (iR.flat xs)) (i : Nat) (x : Int) :
    (w.setCell ⟨g, i, none⟩ (.int .i64 x)).ownsRow base e 1 (.slice (some ⟨g, 0, none⟩) n c) n (iR.flat (xs.set i x)) := by
  have h1 := (h.stored i (.int .i64 x)).1
  rw [iR_flat] at h1 ⊢
  rwa [List.map_set]

set_option maxHeartbeats 1600000 in
theorem markIS_any (k : Int) (ys : List Int) (g cap base : Nat) (w : World) (h : w.ownsRow base 2 1 (.slice (some ⟨g, 0, none⟩) ys.length cap) ys.length (iR.flat ys)) (hk0 : 0 ≤ k) (hk : k ≤ 10000000) (hn : ys.length ≤ 1048576) :
    Calls Try.prog 23 #[.slice (some ⟨g, 0, none⟩) ys.length cap, .int .i64 k] w fun e w' => e = .returned (.int .i64 (k + (ys.length : Int))) ∧
      w'.ownsRow base 2 1 (.slice (some ⟨g, 0, none⟩) ys.length cap) ys.length (iR.flat (marksI k ys.length)) ∧ Kept g (g + 1) w w' := by
  have HO : Hid (w.ownsRow base 2 1 (.slice (some ⟨g, 0, none⟩) ys.length cap) ys.length (iR.flat (iMarked k ys 0))) := by rw [iMarked_zero]; exact h
  clear h
  go_enter Try.func23, Try.ntmps23
  go_wp2
  go_loopw [1, 5] (fun q i wr => ∃ j : Nat, j ≤ ys.length ∧ i = .int .i64 j ∧ q = .int .i64 (k + (j : Int)) ∧ Hid (wr.ownsRow base 2 1 (.slice (some ⟨g, 0, none⟩) ys.length cap) ys.length (iR.flat (iMarked k ys j))) ∧ Hid (Kept g (g + 1) w wr)) (fun _ i _ => ys.length - (intOf i).toNat)
  case atStart => exact ⟨0, Nat.zero_le _, rfl, by go_num, HO, Lib.hid (Kept.refl _ _ _)⟩
  case round =>
    clear HO
    obtain ⟨j, hj, rfl, rfl, HO, HK⟩ := hrel
    by_cases hlt : j < ys.length
    · have hpl : j < (iMarked k ys j).length := by rw [iMarked_len k ys j hj]; exact hlt
      have hat := iMarked_at k ys j hlt
      have c0 : wr.cell? ⟨g, j, none⟩ = some (.int .i64 ys[j]) := by
        have := own_at (R := iR) HO.out hpl 0 (u := .int .i64 ys[j]) (by rw [hat]; rfl)
        rwa [iR_k, Nat.mul_one, Nat.add_zero] at this
      have f0 : wr.frozen? ⟨g, j, none⟩ = false := HO.out.frozenAt _
      have i1 : (j : Int) < (ys.length : Int) := by omega
      clear hpl hat
      go_wp2
      go_roundw
      case rel =>
        refine ⟨j + 1, by omega, by go_num, by rw [show k + ((j + 1 : Nat) : Int) = k + (j : Int) + 1 from by omega], Lib.hid ?_, Lib.hid (HK.out.setCell (.inr ⟨Nat.le_refl _, Nat.lt_succ_self _⟩) _)⟩
        rw [← iMarked_succ k ys j hlt]
        exact own_putI HO.out j _
      case measure => simp [intOf]; omega
    · have e : j = ys.length := by omega
      subst e
      go_wp2
      go_ret
      exact ⟨rfl, by rw [← iMarked_all]; exact HO.out, HK.out⟩
theorem markIS_own (k : Int) (ys : List Int) (A : Option Addr) (c lo hi : Nat) (w : World) (h : OwnZ w lo hi 2 1 A ys.length c (iR.flat ys)) (hk0 : 0 ≤ k) (hk : k ≤ 10000000) (hn : ys.length ≤ 1048576) :
    Calls Try.prog 23 #[.slice A ys.length c, .int .i64 k] w fun e w' => e = .returned (.int .i64 (k + (ys.length : Int))) ∧
      OwnZ w' lo hi 2 1 A ys.length c (iR.flat (marksI k ys.length)) ∧ Kept (aLo A) (aHi A) w w' := by
  rcases h.form with ⟨rfl, h0, rfl⟩ | ⟨g, rfl, h1, h2, _⟩
  · rw [h0]
    go_enter Try.func23, Try.ntmps23
    go_wp2
    go_rounds 1
    go_ret
    exact ⟨ret_int (by simp), ⟨by simp [marksI, Rec.flat]; exact World.ownsRow_nil _ _ _ _, by simp⟩, Kept.refl _ _ _⟩
  · exact (markIS_any k ys g c lo w h.1 hk0 hk hn).mono fun e w' ⟨he, ho, hk⟩ => ⟨he, ⟨ho, h.2⟩, hk⟩

/-- A slice value that reads as xs. -/
def RdI (w : World) (B : Nat) (v : Value) (xs : List Int) : Prop := ∃ A c, v = .slice A xs.length c ∧ SL iR w B A c xs
/-- A slice value of the call's own. -/
def OwnI (w : World) (lo hi : Nat) (v : Value) (xs : List Int) : Prop := ∃ D d, v = .slice D xs.length d ∧ OwnZ w lo hi 2 1 D xs.length d (iR.flat xs)
section
variable {w w' : World} {B B' lo hi lo' hi' : Nat} {v : Value} {xs : List Int}
theorem RdI.kept (h : RdI w B v xs) (hB : B ≤ w.heap.size) (hk : Kept lo hi w w') (hr : hi ≤ lo ∨ B ≤ lo) : RdI w' B v xs := by
  obtain ⟨A, c, e, h⟩ := h; exact ⟨A, c, e, h.kept hB hk hr⟩
theorem RdI.wide (h : RdI w B v xs) (hB : B ≤ B') : RdI w B' v xs := by
  obtain ⟨A, c, e, h⟩ := h; exact ⟨A, c, e, h.wide hB⟩
theorem RdI.up (h : RdI w w.heap.size v xs) (hk : Kept 0 0 w w') : RdI w' w'.heap.size v xs := (h.kept (Nat.le_refl _) hk (.inl (Nat.le_refl _))).wide hk.size
theorem RdI.len (h : RdI w B v xs) : xs.length ≤ maxLen := by obtain ⟨A, c, e, h⟩ := h; exact h.rd.1
theorem OwnI.kept (h : OwnI w lo hi v xs) (hk : Kept lo' hi' w w') (hr : hi' ≤ lo' ∨ hi ≤ lo' ∨ hi' ≤ lo) : OwnI w' lo hi v xs := by
  obtain ⟨A, c, e, h⟩ := h; exact ⟨A, c, e, h.kept hk hr⟩
theorem OwnI.wide (h : OwnI w lo hi v xs) (hl : lo' ≤ lo) (hh : hi ≤ hi') : OwnI w lo' hi' v xs := by
  obtain ⟨A, c, e, h⟩ := h; exact ⟨A, c, e, h.wide hl hh⟩
theorem OwnI.rd (h : OwnI w lo hi v xs) : RdI w hi v xs := by
  obtain ⟨D, d, e, h⟩ := h; exact ⟨D, d, e, (OwnZ.sl (R := iR) h).2⟩
theorem OwnI.rdW (h : OwnI w lo hi v xs) (hh : hi ≤ w.heap.size) : RdI w w.heap.size v xs := h.rd.wide hh
theorem OwnI.nil (w : World) (lo hi : Nat) : OwnI w lo hi (.slice none 0 0) [] := ⟨none, 0, rfl, ⟨⟨rfl, .inl ⟨rfl, rfl⟩⟩, by intro ad h; cases h⟩⟩
end
theorem eqI (xs : List Int) (v v' : Value) (w : World) (h : RdI w w.heap.size v xs) (h' : RdI w w.heap.size v' xs) :
    Calls Try.prog 21 #[v, v'] w fun e w' => e = .returned (.bool true) ∧ Kept 0 0 w w' := by
  obtain ⟨A, c, rfl, h⟩ := h
  obtain ⟨A', c', rfl, h'⟩ := h'
  exact eqIS_any xs A A' c c' _ _ w h.rd h'.rd
theorem markI (k : Int) (xs : List Int) (v : Value) (lo hi : Nat) (w : World) (h : OwnI w lo hi v xs) (hk0 : 0 ≤ k) (hk : k ≤ 10000000) (hn : xs.length ≤ 1048576) :
    Calls Try.prog 23 #[v, .int .i64 k] w fun e w' => e = .returned (.int .i64 (k + (xs.length : Int))) ∧ OwnI w' lo hi v (marksI k xs.length) ∧ Kept lo hi w w' := by
  obtain ⟨D, d, rfl, h⟩ := h
  refine (markIS_own k xs D d lo hi w h hk0 hk hn).mono fun e w' ⟨he, ho, hk'⟩ => ⟨he, ⟨D, d, by rw [marksI_len], by rw [marksI_len]; exact ho⟩, hk'.wide ?_⟩
  have := h.range
  omega
theorem heldI (k : Int) (n : Nat) (v : Value) (w : World) (B : Nat) (h : RdI w B v (marksI k n)) (hk0 : 0 ≤ k) (hk : k ≤ 10000000) (hn : n ≤ 1048576) :
    Calls Try.prog 24 #[v, .int .i64 k] w fun e w' => e = .returned (.int .i64 (k + (n : Int))) ∧ w = w' := by
  obtain ⟨A, c, rfl, h⟩ := h
  rw [marksI_len]
  exact heldIS_any k n A c B w h.rd hk0 hk hn
end Go.Proofs.Ytfpnpjpcjbndoaa
