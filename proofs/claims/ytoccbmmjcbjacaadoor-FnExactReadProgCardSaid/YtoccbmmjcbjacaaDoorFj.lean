/- Slices of strings in memory, and the reference's l1Words; no condition but that the text is not beyond a bound. -/
import Derived.Test.YtoccbmmjcbjacaaDoorFi
namespace Go.Proofs.YtoccbmmjcbjacaaDoor
open Go.RowKit Go.Sort

/-- How a text lies in memory. -/
def sR : Rec (List UInt8) := ⟨1, fun x => [.string (bs x)], fun _ => rfl, by decide, fun x u hu => by
  simp only [List.mem_cons, List.not_mem_nil, or_false] at hu
  rcases hu with rfl; rfl⟩
theorem sR_k : sR.k = 1 := rfl
theorem Tryd.infoSt : (Tryd.prog.info? 9).map (fun i => (i.zero, i.size, i.bytes)) = some (some (.string ⟨#[]⟩), 1, 16) := by kernel_rfl
theorem sSlice : SliceOf Tryd.prog 41 9 sR.k 16 := SliceOf.of Tryd.underlying41 Tryd.infoSt rfl
theorem RdR.s {w : World} {B : Nat} {A : Option Addr} {xs : List (List UInt8)} {k : Nat} (h : RdR sR w B A xs) (hk : k < xs.length) :
    ∃ ad, A = some ad ∧ ad.block < B ∧ w.cell? (ad.add k) = some (.string (bs xs[k])) := by
  obtain ⟨ad, e, hb, hc⟩ := h.at_ hk
  refine ⟨ad, e, hb, ?_⟩
  have := hc 0 _ rfl
  rwa [sR_k, Nat.mul_one, Nat.add_zero] at this
theorem joinW_take (s : List UInt8) (ws : List (List UInt8)) {k : Nat} (hk : k < ws.length) : joinW s (ws.take (k + 1)) = if k = 0 then ws[k] else joinW s (ws.take k) ++ s ++ ws[k] := by
  rw [List.take_succ_eq_append_getElem hk, joinW_snoc]
  by_cases h0 : k = 0
  · subst h0; simp
  · rw [if_neg h0, if_neg]
    intro e
    have := congrArg List.length e
    rw [List.length_take] at this
    simp only [List.length_nil] at this
    omega
theorem joinW_len (s : List UInt8) (ws : List (List UInt8)) (k : Nat) : (joinW s (ws.take k)).length ≤ (joinW s ws).length := by
  obtain ⟨d, hd⟩ : ∃ d, ws.length ≤ k + d := ⟨ws.length, by omega⟩
  induction d generalizing k with
  | zero => rw [List.take_of_length_le (by omega)]; exact Nat.le_refl _
  | succ d ih =>
    refine Nat.le_trans ?_ (ih (k + 1) (by omega))
    by_cases hk : k < ws.length
    · rw [joinW_take s ws hk]
      split
      · rename_i h; subst h; simp [joinW]
      · simp only [List.length_append]; omega
    · rw [List.take_of_length_le (by omega), List.take_of_length_le (by omega)]; exact Nat.le_refl _

set_option maxHeartbeats 1600000 in
theorem words_any (xs : List (List UInt8)) (sep : List UInt8) (A : Option Addr) (c B : Nat) (w : World) (h : RdR sR w B A xs) (hn : (joinW sep xs).length ≤ 1099511627776) :
    Calls Tryd.prog 34 #[.slice A xs.length c, .string (bs sep)] w fun e w' => e = .returned (.string (bs (joinW sep xs))) ∧ w = w' := by
  have hx := h.1
  unfold maxLen at hx
  have H := Lib.hid h
  clear h
  obtain ⟨b, hb⟩ : ∃ b, b = bs sep := ⟨_, rfl⟩
  rw [← hb]
  have HB := Lib.hid hb
  clear hb
  go_enter Tryd.func34, Tryd.ntmps34
  go_wp2
  go_loop [5, 6] (fun s i => ∃ k : Nat, k ≤ xs.length ∧ i = .int .i64 k ∧ s = .string (bs (joinW sep (xs.take k)))) (fun _ i => xs.length - (intOf i).toNat)
  case atStart => exact ⟨0, Nat.zero_le _, by rfl, by rfl⟩
  case round =>
    obtain ⟨k, hk, rfl, rfl⟩ := hrel
    obtain ⟨s, hs⟩ : ∃ s, s = bs (joinW sep (xs.take k)) := ⟨_, rfl⟩
    rw [← hs]
    by_cases hlt : k < xs.length
    · obtain ⟨ad, rfl, _, c0⟩ := H.out.s hlt
      have i1 : (k : Int) < (xs.length : Int) := by omega
      have e1 := joinW_take sep xs hlt
      have e2 := joinW_len sep xs (k + 1)
      obtain ⟨x, hxk⟩ : ∃ x, x = bs xs[k] := ⟨_, rfl⟩
      rw [← hxk] at c0
      by_cases h0 : k = 0
      · have i2 : ¬ ((0 : Int) < (k : Int)) := by omega
        have jt : joinW sep (xs.take k) = [] := by rw [h0]; rfl
        have nx : Hid (s ++ x = bs (joinW sep (xs.take (k + 1)))) := by
          show _ = _
          rw [e1, if_pos h0, hs, hxk, bs_append, jt]; rfl
        have z1 : s.size + x.size ≤ 9223372036854775807 := by
          rw [e1, if_pos h0] at e2
          rw [hs, hxk, bs_size, bs_size, jt]
          simp only [List.length_nil]
          omega
        have H0 := Lib.hid h0
        clear h0 hs hxk e1 e2 jt
        go_wp2_with fail
        go_round
        case rel => exact ⟨k + 1, by omega, by go_num, by rw [← nx.out]⟩
        case measure => simp [intOf]; omega
      · have i2 : (0 : Int) < (k : Int) := by omega
        have nx : Hid (s ++ b ++ x = bs (joinW sep (xs.take (k + 1)))) := by
          show _ = _
          rw [e1, if_neg h0, hs, hxk, HB.out, bs_append, bs_append]
        have z2 : s.size + b.size + x.size ≤ 1099511627776 := by
          rw [e1, if_neg h0] at e2
          simp only [List.length_append] at e2
          rw [hs, hxk, HB.out, bs_size, bs_size, bs_size]
          omega
        have H0 := Lib.hid h0
        clear h0 hs hxk e1 e2
        have z3 : s.size + b.size ≤ 9223372036854775807 := by omega
        have z4 : (s ++ b).size + x.size ≤ 9223372036854775807 := by rw [ByteArray.size_append]; omega
        go_wp2_with fail
        go_round
        case rel => exact ⟨k + 1, by omega, by go_num, by rw [← nx.out]⟩
        case measure => simp [intOf]; omega
    · have i1 : ¬ (k : Int) < (xs.length : Int) := by omega
      go_wp2_with fail
      go_ret
      exact ⟨ret_str (by rw [List.take_of_length_le (by omega)]), rfl⟩
end Go.Proofs.YtoccbmmjcbjacaaDoor
