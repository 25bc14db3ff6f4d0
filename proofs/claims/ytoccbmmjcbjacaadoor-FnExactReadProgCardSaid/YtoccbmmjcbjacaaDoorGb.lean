/- The reference's l1Read: how a number is read; condition: the text has at most 4294967280 bytes. -/
import Derived.Test.YtoccbmmjcbjacaaDoorGa
namespace Go.Proofs.YtoccbmmjcbjacaaDoor
open Go.RowKit Go.Sort

theorem numOf_lt (l : List UInt8) (h : l.all isDig = true) : numOf l < 10 ^ l.length := by
  obtain ⟨n, hn⟩ : ∃ n, n = l.length := ⟨_, rfl⟩
  induction n generalizing l with
  | zero => have := List.length_eq_zero_iff.1 hn.symm; subst this; decide
  | succ n ih =>
    obtain ⟨t, c, rfl⟩ : ∃ t c, l = t ++ [c] := ⟨l.dropLast, l.getLast (by intro e; rw [e] at hn; simp at hn), (List.dropLast_concat_getLast _).symm⟩
    rw [List.all_append] at h
    simp only [Bool.and_eq_true, List.all_cons, List.all_nil, Bool.and_true] at h
    have hc := isDig_iff.1 h.2
    have ht : n = t.length := by simp at hn; omega
    have := ih t h.1 ht
    rw [numOf_snoc, List.length_append, ← ht] at *
    simp only [List.length_cons, List.length_nil]
    rw [Nat.pow_succ]
    omega
theorem numOf_le (l : List UInt8) (h : l.all isDig = true) (hl : l.length ≤ 12) : numOf l < 1000000000000 := by
  have h1 := numOf_lt l h
  have h2 : 10 ^ l.length ≤ 10 ^ 12 := Nat.pow_le_pow_right (by omega) hl
  omega
/-- What reading a number returns. -/
def readV (s : List UInt8) : Value := .tuple #[.int .i64 ((readN s).getD 0), .bool (readN s).isSome]
theorem readM_none {neg : Bool} {m : List UInt8} (h : ¬ (1 ≤ m.length ∧ m.length ≤ 12 ∧ m.all isDig = true ∧ (m.head? = some 48 → neg = false ∧ m.length ≤ 1))) : readM neg m = none := by unfold readM; rw [if_neg h]
theorem readV_none {s : List UInt8} (h : readN s = none) : readV s = .tuple #[.int .i64 0, .bool false] := by unfold readV; rw [h]; rfl
theorem readV_some {s : List UInt8} {v : Int} (h : readN s = some v) : readV s = .tuple #[.int .i64 v, .bool true] := by unfold readV; rw [h]; rfl
theorem bs_isEmpty (s : List UInt8) : (bs s).toList.isEmpty = decide (s = []) := by
  rw [bs_list]; cases s <;> simp
theorem bs_at (s : List UInt8) (t : ByteArray) (h : t = bs s) (k : Nat) (hk : k < s.length) (hkt : k < t.size) : t[k] = s[k] := by subst h; rfl

set_option maxHeartbeats 3200000 in
theorem read_any (s : List UInt8) (hs : s.length ≤ 4294967280) (w : World) :
    Calls Tryd.prog 61 #[.string (bs s)] w fun e w' => e = .returned (readV s) ∧ Kept 0 0 w w' := by
  obtain ⟨t, ht⟩ : ∃ t, t = bs s := ⟨_, rfl⟩
  rw [← ht]
  have hz : t.size = s.length := by rw [ht, bs_size]
  have HZ := Lib.hid hz
  have hts : t.size ≤ 4294967280 := by omega
  have q0 : t.toList.isEmpty = decide (s = []) := by rw [ht, bs_isEmpty]
  have HT := Lib.hid ht
  clear ht hz
  by_cases h0 : s = []
  · rw [decide_eq_true h0] at q0
    have E := Lib.hid (readV_none (s := s) (by rw [h0]; rfl))
    have zt : t.size = 0 := by rw [HZ.out, h0]; rfl
    clear h0
    go_enter Tryd.func61, Tryd.ntmps61
    go_wp2_with fail
    exact bodyPost_ret (v := .tuple #[.int .i64 0, .bool false]) (by simp [results, Tryd.results61, go_sem]) rfl ⟨by rw [E.out], Kept.refl _ _ _⟩
  rw [decide_eq_false h0] at q0
  have hpos : 0 < s.length := List.length_pos_iff.2 h0
  have hp0 : 0 < t.size := by rw [HZ.out]; exact hpos
  have g0 : t[0] = s[0] := bs_at s t HT.out 0 hpos hp0
  have hh : s.head? = some s[0] := by rw [List.head?_eq_getElem?, List.getElem?_eq_getElem hpos]
  obtain ⟨c0, hc0⟩ : ∃ c0, c0 = s[0] := ⟨_, rfl⟩
  rw [← hc0] at g0 hh
  have HH := Lib.hid hh
  have HC0 := Lib.hid hc0
  clear hh hc0 h0
  by_cases h45 : c0 = 45
  · obtain ⟨m, hmm⟩ : ∃ m, m = s.tail := ⟨_, rfl⟩
    have i0 : ((c0.toNat : Int) == 45) = true := by rw [h45]; rfl
    have hm : Hid (readN s = readM true m) := by show _ = _; unfold readN; rw [HH.out, h45, if_pos rfl, hmm]
    have hml : Hid (m.length + 1 = s.length) := by show _ = _; rw [hmm, List.length_tail]; omega
    have hmd : Hid (∀ j (hj : j < m.length) (hj' : j + 1 < s.length), s[j + 1] = m[j]) := fun j hj hj' => by simp [hmm, List.getElem_tail]
    have HH2 : Hid True := trivial
    clear h45 hmm
    go_enter Tryd.func61, Tryd.ntmps61
    go_upto_region 6 with fail
    by_cases h1 : 1 ≤ m.length ∧ m.length ≤ 12
    case neg =>
      have E := Lib.hid (readV_none (by rw [hm.out]; exact readM_none (fun h => h1 ⟨h.1, h.2.1⟩)))
      by_cases h2 : 1 ≤ m.length
      · have i1 : ¬ ((t.size : Int) - 1 < 1) := by have := HZ.out; have := hml.out; omega
        have i2 : (12 : Int) < (t.size : Int) - 1 := by have := HZ.out; have := hml.out; omega
        go_wp2_with fail
        exact bodyPost_ret (v := .tuple #[.int .i64 0, .bool false]) (by simp [results, Tryd.results61, go_sem]) rfl ⟨by rw [E.out], Kept.refl _ _ _⟩
      · have i1 : ((t.size : Int) - 1 < 1) := by have := HZ.out; have := hml.out; omega
        go_wp2_with fail
        exact bodyPost_ret (v := .tuple #[.int .i64 0, .bool false]) (by simp [results, Tryd.results61, go_sem]) rfl ⟨by rw [E.out], Kept.refl _ _ _⟩
    have i1 : ¬ ((t.size : Int) - 1 < 1) := by have := HZ.out; have := hml.out; omega
    have i2 : ¬ ((12 : Int) < (t.size : Int) - 1) := by have := HZ.out; have := hml.out; omega
    have HM := Lib.hid h1
    clear h1
    go_wp2_with fail
    go_loopw [6, 7] (fun n k wr => ∃ j : Nat, j ≤ m.length ∧ k = .int .i64 ((j : Int) + 1) ∧ n = .int .i64 (numOf (m.take j)) ∧ Hid ((m.take j).all isDig = true) ∧ wr = w) (fun _ k _ => s.length + 2 - (intOf k).toNat)
    case atStart => exact ⟨0, Nat.zero_le _, by rfl, by rfl, rfl, rfl⟩
    case round =>
      obtain ⟨j, hj, rfl, rfl, HA, rfl⟩ := hrel
      have hml' := hml.out
      have HZ' := HZ.out
      have hM1 := HM.out.1
      have hM2 := HM.out.2
      by_cases hlt : j < m.length
      · have hb := hmd.out j hlt (by omega)
        have i3 : (j : Int) + 1 < (t.size : Int) := by omega
        have hkt : j + 1 < t.size := by omega
        have gb : t[j + 1] = m[j] := by rw [← hb]; exact bs_at s t HT.out _ _ _
        obtain ⟨c, hc⟩ : ∃ c, c = m[j] := ⟨_, rfl⟩
        rw [← hc] at gb
        have HC := Lib.hid hc
        have nx : Hid (∀ (h : isDig c = true), ((m.take (j + 1)).all isDig = true) ∧ numOf (m.take (j + 1)) = numOf (m.take j) * 10 + (c.toNat - 48)) := fun h => by
          rw [List.take_succ_eq_append_getElem hlt, numOf_snoc, ← HC.out]
          refine ⟨?_, rfl⟩
          rw [List.all_append, HA.out]
          simp [h]
        have nb := numOf_le (m.take j) HA.out (by simp; omega)
        have no : Hid (isDig c = false → readV s = .tuple #[.int .i64 0, .bool false]) := fun h => readV_none (by rw [hm.out]; exact readM_none (fun hh => by
          have := List.all_eq_true.1 hh.2.2.1 m[j] (List.getElem_mem hlt)
          rw [← HC.out, h] at this; cases this))
        obtain ⟨n0, hn0⟩ : ∃ n0, n0 = numOf (m.take j) := ⟨_, rfl⟩
        rw [← hn0] at nx nb ⊢
        have HLT := Lib.hid hlt
        have e3 := hml
        clear hn0 hc hml' HZ' hM1 hM2 hb
        by_cases h48 : (c.toNat : Int) < 48
        · have E := Lib.hid (no.out (by unfold isDig; rw [decide_eq_false (by omega)]; rfl))
          have d1 : decide ((c.toNat : Int) < 48) = true := decide_eq_true h48
          clear nx no
          go_wp2_with fail
          exact bodyPost_ret (v := .tuple #[.int .i64 0, .bool false]) (by simp [results, Tryd.results61, go_sem]) rfl ⟨by rw [E.out], Kept.refl _ _ _⟩
        have d1 : decide ((c.toNat : Int) < 48) = false := decide_eq_false h48
        by_cases h57 : (57 : Int) < (c.toNat : Int)
        · have E := Lib.hid (no.out (by unfold isDig; rw [decide_eq_true (by omega : 48 ≤ c.toNat), decide_eq_false (by omega)]; rfl))
          have d2 : decide ((57 : Int) < (c.toNat : Int)) = true := decide_eq_true h57
          clear nx no
          go_wp2_with fail
          exact bodyPost_ret (v := .tuple #[.int .i64 0, .bool false]) (by simp [results, Tryd.results61, go_sem]) rfl ⟨by rw [E.out], Kept.refl _ _ _⟩
        have d2 : decide ((57 : Int) < (c.toNat : Int)) = false := decide_eq_false h57
        have ND := nx.out (by rw [isDig_iff]; omega)
        have ew : wrap64 ((n0 : Int) * 10) = n0 * 10 := by unfold wrap64; omega
        have ew2 : wrap64 ((n0 : Int) * 10 + ((c.toNat : Int) - 48)) = ((n0 * 10 + (c.toNat - 48) : Nat) : Int) := by unfold wrap64; omega
        have HND := Lib.hid ND
        have HD : Hid (48 ≤ c.toNat ∧ c.toNat ≤ 57) := by show _ ∧ _; omega
        clear nx no ND h48 h57
        go_wp2_with fail
        go_roundw
        case rel => exact ⟨j + 1, HLT.out, by go_num, by rw [HND.out.2]; have := HD.out; exact congrArg (Value.int IntKind.i64) (by omega), HND.out.1, by simp⟩
        case measure => have := HLT.out; have := e3.out; simp [intOf]; omega
      · have i3 : ¬ (j : Int) + 1 < (t.size : Int) := by omega
        have hje : j = m.length := by omega
        have HA2 : Hid (m.all isDig = true) := by have := HA.out; rwa [hje, List.take_length] at this
        have hn : numOf (m.take j) = numOf m := by rw [hje, List.take_length]
        rw [hn]
        have nb := numOf_le m HA2.out hM2
        have hb := hmd.out 0 (by omega) (by omega)
        have hkt : 1 < t.size := by omega
        have gb : t[1] = m[0] := by rw [← hb]; exact bs_at s t HT.out _ _ _
        have hhd : m.head? = some m[0] := by rw [List.head?_eq_getElem?, List.getElem?_eq_getElem (by omega)]
        obtain ⟨c, hc⟩ : ∃ c, c = m[0] := ⟨_, rfl⟩
        rw [← hc] at gb hhd
        have HHD := Lib.hid hhd
        have RM : Hid ((c = 48 → true = false ∧ m.length ≤ 1) → readV s = .tuple #[.int .i64 (-(numOf m : Int)), .bool true]) := fun h => readV_some (by
          rw [hm.out]; unfold readM
          rw [if_pos ⟨HM.out.1, HM.out.2, HA2.out, fun e => h (by rw [HHD.out] at e; exact Option.some.inj e)⟩]
          rfl)
        have RN : Hid (¬ (c = 48 → true = false ∧ m.length ≤ 1) → readV s = .tuple #[.int .i64 0, .bool false]) := fun h => readV_none (by
          rw [hm.out]; exact readM_none (fun hh => h (fun e => hh.2.2.2 (by rw [HHD.out, e]))))
        obtain ⟨n0, hn0⟩ : ∃ n0, n0 = numOf m := ⟨_, rfl⟩
        rw [← hn0] at RM nb ⊢
        have T1 : Hid (t.size = m.length + 1) := by show _ = _; omega
        have ew : wrap64 (-(n0 : Int)) = -n0 := by unfold wrap64; omega
        clear hn0 hc hml' HZ' hb hn hhd
        by_cases h48 : c = 48
        · have d1 : ((c.toNat : Int) == 48) = true := by rw [h48]; rfl
          have E := Lib.hid (RN.out (fun h => by have := (h h48).1; cases this))
          clear RM RN h48
          go_wp2_with fail
          exact bodyPost_ret (v := .tuple #[.int .i64 0, .bool false]) (by simp [results, Tryd.results61, go_sem]) rfl ⟨by rw [E.out], Kept.refl _ _ _⟩
        · have d1 : ((c.toNat : Int) == 48) = false := by
            have : c.toNat ≠ 48 := fun e => h48 (UInt8.toNat_inj.1 e)
            simp; omega
          have E := Lib.hid (RM.out (fun h => absurd h h48))
          clear RM RN h48
          go_wp2_with fail
          exact bodyPost_ret (v := .tuple #[.int .i64 (-(n0 : Int)), .bool true]) (by simp [results, Tryd.results61, go_sem, ew]) rfl ⟨by rw [E.out], Kept.refl _ _ _⟩
  · obtain ⟨m, hmm⟩ : ∃ m, m = s := ⟨_, rfl⟩
    have i0 : ((c0.toNat : Int) == 45) = false := by
      have : c0.toNat ≠ 45 := fun e => h45 (UInt8.toNat_inj.1 e)
      simp; omega
    have hm : Hid (readN s = readM false m) := by show _ = _; unfold readN; rw [HH.out, if_neg (fun e => h45 (Option.some.inj e)), hmm]
    have hml : Hid (m.length + 0 = s.length) := by show _ = _; rw [hmm]; rfl
    have hmd : Hid (∀ j (hj : j < m.length) (hj' : j < s.length), s[j] = m[j]) := fun j hj hj' => by simp [hmm]
    clear h45 hmm
    go_enter Tryd.func61, Tryd.ntmps61
    go_upto_region 6 with fail
    by_cases h1 : 1 ≤ m.length ∧ m.length ≤ 12
    case neg =>
      have E := Lib.hid (readV_none (by rw [hm.out]; exact readM_none (fun h => h1 ⟨h.1, h.2.1⟩)))
      by_cases h2 : 1 ≤ m.length
      · have i1 : ¬ ((t.size : Int) < 1) := by have := HZ.out; have := hml.out; omega
        have i2 : (12 : Int) < (t.size : Int) := by have := HZ.out; have := hml.out; omega
        go_wp2_with fail
        exact bodyPost_ret (v := .tuple #[.int .i64 0, .bool false]) (by simp [results, Tryd.results61, go_sem]) rfl ⟨by rw [E.out], Kept.refl _ _ _⟩
      · have i1 : ((t.size : Int) < 1) := by have := HZ.out; have := hml.out; omega
        go_wp2_with fail
        exact bodyPost_ret (v := .tuple #[.int .i64 0, .bool false]) (by simp [results, Tryd.results61, go_sem]) rfl ⟨by rw [E.out], Kept.refl _ _ _⟩
    have i1 : ¬ ((t.size : Int) < 1) := by have := HZ.out; have := hml.out; omega
    have i2 : ¬ ((12 : Int) < (t.size : Int)) := by have := HZ.out; have := hml.out; omega
    have HM := Lib.hid h1
    clear h1
    go_wp2_with fail
    go_loopw [6, 7] (fun n k wr => ∃ j : Nat, j ≤ m.length ∧ k = .int .i64 ((j : Int)) ∧ n = .int .i64 (numOf (m.take j)) ∧ Hid ((m.take j).all isDig = true) ∧ wr = w) (fun _ k _ => s.length + 2 - (intOf k).toNat)
    case atStart => exact ⟨0, Nat.zero_le _, by rfl, by rfl, rfl, rfl⟩
    case round =>
      obtain ⟨j, hj, rfl, rfl, HA, rfl⟩ := hrel
      have hml' := hml.out
      have HZ' := HZ.out
      have hM1 := HM.out.1
      have hM2 := HM.out.2
      by_cases hlt : j < m.length
      · have hb := hmd.out j hlt (by omega)
        have i3 : (j : Int) < (t.size : Int) := by omega
        have hkt : j < t.size := by omega
        have gb : t[j] = m[j] := by rw [← hb]; exact bs_at s t HT.out _ _ _
        obtain ⟨c, hc⟩ : ∃ c, c = m[j] := ⟨_, rfl⟩
        rw [← hc] at gb
        have HC := Lib.hid hc
        have nx : Hid (∀ (h : isDig c = true), ((m.take (j + 1)).all isDig = true) ∧ numOf (m.take (j + 1)) = numOf (m.take j) * 10 + (c.toNat - 48)) := fun h => by
          rw [List.take_succ_eq_append_getElem hlt, numOf_snoc, ← HC.out]
          refine ⟨?_, rfl⟩
          rw [List.all_append, HA.out]
          simp [h]
        have nb := numOf_le (m.take j) HA.out (by simp; omega)
        have no : Hid (isDig c = false → readV s = .tuple #[.int .i64 0, .bool false]) := fun h => readV_none (by rw [hm.out]; exact readM_none (fun hh => by
          have := List.all_eq_true.1 hh.2.2.1 m[j] (List.getElem_mem hlt)
          rw [← HC.out, h] at this; cases this))
        obtain ⟨n0, hn0⟩ : ∃ n0, n0 = numOf (m.take j) := ⟨_, rfl⟩
        rw [← hn0] at nx nb ⊢
        have HLT := Lib.hid hlt
        have e3 := hml
        clear hn0 hc hml' HZ' hM1 hM2 hb
        by_cases h48 : (c.toNat : Int) < 48
        · have E := Lib.hid (no.out (by unfold isDig; rw [decide_eq_false (by omega)]; rfl))
          have d1 : decide ((c.toNat : Int) < 48) = true := decide_eq_true h48
          clear nx no
          go_wp2_with fail
          exact bodyPost_ret (v := .tuple #[.int .i64 0, .bool false]) (by simp [results, Tryd.results61, go_sem]) rfl ⟨by rw [E.out], Kept.refl _ _ _⟩
        have d1 : decide ((c.toNat : Int) < 48) = false := decide_eq_false h48
        by_cases h57 : (57 : Int) < (c.toNat : Int)
        · have E := Lib.hid (no.out (by unfold isDig; rw [decide_eq_true (by omega : 48 ≤ c.toNat), decide_eq_false (by omega)]; rfl))
          have d2 : decide ((57 : Int) < (c.toNat : Int)) = true := decide_eq_true h57
          clear nx no
          go_wp2_with fail
          exact bodyPost_ret (v := .tuple #[.int .i64 0, .bool false]) (by simp [results, Tryd.results61, go_sem]) rfl ⟨by rw [E.out], Kept.refl _ _ _⟩
        have d2 : decide ((57 : Int) < (c.toNat : Int)) = false := decide_eq_false h57
        have ND := nx.out (by rw [isDig_iff]; omega)
        have ew : wrap64 ((n0 : Int) * 10) = n0 * 10 := by unfold wrap64; omega
        have ew2 : wrap64 ((n0 : Int) * 10 + ((c.toNat : Int) - 48)) = ((n0 * 10 + (c.toNat - 48) : Nat) : Int) := by unfold wrap64; omega
        have HND := Lib.hid ND
        have HD : Hid (48 ≤ c.toNat ∧ c.toNat ≤ 57) := by show _ ∧ _; omega
        clear nx no ND h48 h57
        go_wp2_with fail
        go_roundw
        case rel => exact ⟨j + 1, HLT.out, by go_num, by rw [HND.out.2]; have := HD.out; exact congrArg (Value.int IntKind.i64) (by omega), HND.out.1, by simp⟩
        case measure => have := HLT.out; have := e3.out; simp [intOf]; omega
      · have i3 : ¬ (j : Int) < (t.size : Int) := by omega
        have hje : j = m.length := by omega
        have HA2 : Hid (m.all isDig = true) := by have := HA.out; rwa [hje, List.take_length] at this
        have hn : numOf (m.take j) = numOf m := by rw [hje, List.take_length]
        rw [hn]
        have nb := numOf_le m HA2.out hM2
        have hb := hmd.out 0 (by omega) (by omega)
        have hkt : 0 < t.size := by omega
        have gb : t[0] = m[0] := by rw [← hb]; exact bs_at s t HT.out _ _ _
        have hhd : m.head? = some m[0] := by rw [List.head?_eq_getElem?, List.getElem?_eq_getElem (by omega)]
        obtain ⟨c, hc⟩ : ∃ c, c = m[0] := ⟨_, rfl⟩
        rw [← hc] at gb hhd
        have hcc : c = c0 := by rw [← gb, ← g0]
        subst hcc
        have HHD := Lib.hid hhd
        have RM : Hid ((c = 48 → false = false ∧ m.length ≤ 1) → readV s = .tuple #[.int .i64 ((numOf m : Int)), .bool true]) := fun h => readV_some (by
          rw [hm.out]; unfold readM
          rw [if_pos ⟨HM.out.1, HM.out.2, HA2.out, fun e => h (by rw [HHD.out] at e; exact Option.some.inj e)⟩]
          rfl)
        have RN : Hid (¬ (c = 48 → false = false ∧ m.length ≤ 1) → readV s = .tuple #[.int .i64 0, .bool false]) := fun h => readV_none (by
          rw [hm.out]; exact readM_none (fun hh => h (fun e => hh.2.2.2 (by rw [HHD.out, e]))))
        obtain ⟨n0, hn0⟩ : ∃ n0, n0 = numOf m := ⟨_, rfl⟩
        rw [← hn0] at RM nb ⊢
        have T1 : Hid (t.size = m.length + 0) := by show _ = _; omega
        have ew : wrap64 (-(n0 : Int)) = -n0 := by unfold wrap64; omega
        clear hn0 hc hml' HZ' hb hn hhd
        by_cases h48 : c = 48
        · have d1 : ((c.toNat : Int) == 48) = true := by rw [h48]; rfl
          by_cases hl1 : m.length ≤ 1
          · have E := Lib.hid (RM.out (fun _ => ⟨rfl, hl1⟩))
            have i5 : ¬ ((1 : Int) < (t.size : Int)) := by have := T1.out; omega
            clear RM RN h48
            go_wp2_with fail
            exact bodyPost_ret (v := .tuple #[.int .i64 (n0 : Int), .bool true]) (by simp [results, Tryd.results61, go_sem]) rfl ⟨by rw [E.out], Kept.refl _ _ _⟩
          · have E := Lib.hid (RN.out (fun h => hl1 (h h48).2))
            have i5 : (1 : Int) < (t.size : Int) := by have := T1.out; omega
            clear RM RN h48
            go_wp2_with fail
            exact bodyPost_ret (v := .tuple #[.int .i64 0, .bool false]) (by simp [results, Tryd.results61, go_sem]) rfl ⟨by rw [E.out], Kept.refl _ _ _⟩
        · have d1 : ((c.toNat : Int) == 48) = false := by
            have : c.toNat ≠ 48 := fun e => h48 (UInt8.toNat_inj.1 e)
            simp; omega
          have E := Lib.hid (RM.out (fun h => absurd h h48))
          clear RM RN h48
          go_wp2_with fail
          exact bodyPost_ret (v := .tuple #[.int .i64 ((n0 : Int)), .bool true]) (by simp [results, Tryd.results61, go_sem, ew]) rfl ⟨by rw [E.out], Kept.refl _ _ _⟩
end Go.Proofs.YtoccbmmjcbjacaaDoor
