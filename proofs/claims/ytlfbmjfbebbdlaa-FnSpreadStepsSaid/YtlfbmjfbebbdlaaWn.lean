/- The program's queue as a list; no condition beyond that the ring lies in memory. -/
import Derived.Test.YtlfbmjfbebbdlaaWm
import Derived.Test.YtlfbmjfbebbdlaaNq
namespace Go.Proofs.Ytlfbmjfbebbdlaa
open Go.RowKit Go.Sort

set_option maxHeartbeats 3200000 in
theorem list_any (g : Nat) (q : List Int) (w : World) (h : RingQ w g q) :
    Calls Try.prog 64 #[.pointer (some ⟨g, 0, none⟩)] w fun e w' => ∃ u, e = .returned u ∧ OwnI w' w.heap.size w'.heap.size u q ∧ Kept 0 0 w w' := by
  obtain ⟨cs, f, h⟩ := h
  have HR := Lib.hid h
  have c2 := h.c2
  have hq := h.cap
  have HS := Lib.hid iSlice
  clear h
  go_enter Try.func64, Try.ntmps64
  go_wp2_with fail
  clear c2
  go_loopw [3, 9] (fun out i wr => ∃ (k : Nat) (D : Option Addr) (d : Nat) (ks : List Int), k ≤ q.length ∧ i = .int .i64 k ∧ out = .slice D ks.length d ∧ Hid (ks = q.take k) ∧ Hid (wr.ownsRow w.heap.size 2 1 (.slice D ks.length d) ks.length (iR.flat ks)) ∧ Hid (Kept 0 0 w wr)) (fun _ i _ => q.length - (intOf i).toNat)
  case atStart => exact ⟨0, none, 0, [], Nat.zero_le _, rfl, rfl, Lib.hid (by simp), Lib.hid ⟨rfl, .inl ⟨rfl, rfl⟩⟩, Lib.hid (Kept.refl _ _ _)⟩
  case round =>
    obtain ⟨k, D, d, ks, hk, rfl, rfl, HKS, HO, HK⟩ := hrel
    have z := HK.out.size
    have RR := Lib.hid (HR.out.kept HK.out (.inl (Nat.le_refl _)))
    by_cases hlt : k < q.length
    · have i1 : (k : Int) < (q.length : Int) := by omega
      have HL : ks.length ≤ 240 := by rw [HKS.out]; simp; omega
      obtain ⟨j, hjj⟩ : ∃ j, j = (f + k) % 240 := ⟨_, rfl⟩
      have hj : j < 240 := by rw [hjj]; exact Nat.mod_lt _ (by decide)
      have c0 := RR.out.c0 hj
      have hx : cs[j]'(by rw [HR.out.len]; exact hj) = q[k] := by
        have h1 := HR.out.lies k hlt
        rw [← hjj, List.getElem?_eq_getElem (by rw [HR.out.len]; exact hj)] at h1
        simpa using h1
      rw [hx] at c0
      obtain ⟨x, hxx⟩ : ∃ x, x = q[k] := ⟨_, rfl⟩
      rw [← hxx] at c0
      have E : Hid (ks ++ [x] = q.take (k + 1)) := by show _ = _; rw [List.take_succ_eq_append_getElem hlt, HKS.out, hxx]
      have CA := Lib.hid (cellAt_any g f cs q k wr.drew (RR.out.drew) (by omega))
      rw [← hjj] at CA
      have i2 : (0 : Int) ≤ (j : Int) := by omega
      have i3 : (j : Int) < 240 := by omega
      clear hx hxx hjj RR
      go_upto_region 5 with fail
      go_region_law (first
        | (go_simp; go_at_call 65; with_reducible refine CA.out.mono ?_; rintro e w1 ⟨rfl, hw1⟩; subst hw1)
        | (refine step_app (R := iR) rfl (.tmp 12) (.tmp 21) rfl HS.out w.heap.size D d ks rfl (row_kept HO.out (Kept.alloc0 wr (.cells #[.int .i64 x] 2)).drew) (wr.heap.size + 1) (some ⟨wr.heap.size, 0, none⟩) 1 [x] rfl (by exact rd_litI wr x) (by simp [maxLen]; omega) (by simp; omega) (by simp; omega) ?_; intro D1 d1 w2 hown hgrow hat))
      have K2 := Lib.hid ((HK.out.alloc (.cells #[.int .i64 x] 2)).drew.app hgrow (fun g hg => (own_row_lo HO.out g hg).1))
      have O2 := Lib.hid hown
      clear hown hgrow hat HO HK
      go_wp2_with fail
      go_roundw
      case rel => exact ⟨k + 1, D1, d1, ks ++ [x], by omega, by go_num, by simp, E, O2, K2⟩
      case measure => simp [intOf]; omega
    · go_wp2
      go_ret
      have e : ks = q := by rw [HKS.out, List.take_of_length_le (by omega)]
      exact ⟨_, rfl, by rw [← e]; exact ⟨D, d, rfl, OwnZ.of_row HO.out⟩, HK.out⟩
end Go.Proofs.Ytlfbmjfbebbdlaa
