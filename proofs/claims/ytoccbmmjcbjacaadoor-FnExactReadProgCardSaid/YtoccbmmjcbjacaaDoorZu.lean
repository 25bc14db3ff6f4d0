/- The program's operandText, operandIn and opOf; condition: the library's variables hold what its text lays. -/
import Derived.Test.YtoccbmmjcbjacaaDoorZt
import Derived.Test.YtoccbmmjcbjacaaDoorFm
namespace Go.Proofs.YtoccbmmjcbjacaaDoor
open Go.RowKit Go.Sort

set_option maxHeartbeats 1600000 in
theorem opText_any (a : Int) (h1 : -1 ≤ a) (h2 : a ≤ 1000000) (w : World) (hp : Pow w) : Calls Tryd.prog 44 #[.int .i64 a] w fun e w' => e = .returned (.string (bs (wordA a))) ∧ Kept 0 0 w w' := by
  have HP := Lib.hid hp
  clear hp
  by_cases ha : a = -1
  · subst ha
    go_enter Tryd.func44, Tryd.ntmps44
    go_wp2
    go_ret
    exact ⟨rfl, Kept.refl _ _ _⟩
  · obtain ⟨n, rfl⟩ : ∃ n : Nat, a = n := ⟨a.toNat, by omega⟩
    have E := Lib.hid (wordA_nat n)
    have hn : n ≤ 9223372036854775807 := by omega
    go_enter Tryd.func44, Tryd.ntmps44
    go_wp2_with fail
    with_reducible refine (fmt_any n hn _ HP.out).mono ?_
    rintro e w1 ⟨rfl, hk⟩
    have K1 := Lib.hid hk
    clear hk
    go_wp2_with fail
    go_ret
    exact ⟨by rw [E.out]; rfl, K1.out⟩
theorem bs_empty (s : List UInt8) : (bs s).toList.isEmpty = decide (s = []) := by
  rw [bs_list]; cases s <;> simp
theorem bs_eq (s t : List UInt8) : ((bs s).toList == t) = decide (s = t) := by
  rw [bs_list]
  by_cases h : s = t
  · subst h; simp
  · rw [decide_eq_false h]; simpa using h
set_option maxHeartbeats 1600000 in
theorem opIn_any (s : List UInt8) (hs : s.length ≤ 4294967280) (w : World) (he : Env w) : Calls Tryd.prog 56 #[.string (bs s)] w fun e w' => ∃ v, e = .returned (.int .i64 v) ∧ (s = itW → v = -1) ∧ (s ≠ itW → ∀ v', spells s v' → v = v') ∧ (s = [] → v = 0) ∧ Kept 0 0 w w' := by
  have HC := Lib.hid (parse_any s hs w he)
  clear he
  have q : ((bs s).toList == [105, 116]) = decide (s = itW) := bs_eq s itW
  by_cases h : s = itW
  · have HS := Lib.hid h
    rw [decide_eq_true h] at q
    clear h
    go_enter Tryd.func56, Tryd.ntmps56
    go_wp2_with fail
    go_ret
    exact ⟨-1, rfl, fun _ => rfl, fun h => absurd HS.out h, (fun h => by have := HS.out; rw [h] at this; cases this), Kept.refl _ _ _⟩
  · have HS := Lib.hid h
    rw [decide_eq_false h] at q
    clear h
    go_enter Tryd.func56, Tryd.ntmps56
    go_wp2_with fail
    with_reducible refine HC.out.mono ?_
    rintro e w1 ⟨v, u, rfl, hv, h0, hk⟩
    have HV := Lib.hid hv
    have H0 := Lib.hid h0
    have K1 := Lib.hid hk
    clear hv h0 hk HC q
    go_wp2_with fail
    go_ret
    exact ⟨v, rfl, fun h => absurd h HS.out, fun _ => HV.out, fun h => H0.out (by rw [h]; rfl), K1.out⟩
theorem instr_nat (k : Nat) (hk : k < 11) (w : World) : Calls Tryd.prog 43 #[.int .i64 k] w fun e w' => e = .returned (.iface (kTy k) (kPay k)) ∧ w' = w := by
  refine (instr_at k w).mono ?_
  rintro e w' ⟨rfl, rfl⟩
  refine ⟨?_, rfl⟩
  unfold instrV
  rw [if_pos (by omega), Int.toNat_natCast]; rfl
theorem method_word0 (w : World) : (method 270 (kTy 0) (kPay 0) "loop.example/g00673/impl.word").run Tryd.prog w = .ok (127, .string (bs (nameN 0))) w := by kernel_rfl
theorem method_word1 (w : World) : (method 270 (kTy 1) (kPay 1) "loop.example/g00673/impl.word").run Tryd.prog w = .ok (127, .string (bs (nameN 1))) w := by kernel_rfl
theorem method_word2 (w : World) : (method 270 (kTy 2) (kPay 2) "loop.example/g00673/impl.word").run Tryd.prog w = .ok (127, .string (bs (nameN 2))) w := by kernel_rfl
theorem method_word3 (w : World) : (method 270 (kTy 3) (kPay 3) "loop.example/g00673/impl.word").run Tryd.prog w = .ok (127, .string (bs (nameN 3))) w := by kernel_rfl
theorem method_word4 (w : World) : (method 270 (kTy 4) (kPay 4) "loop.example/g00673/impl.word").run Tryd.prog w = .ok (127, .string (bs (nameN 4))) w := by kernel_rfl
theorem method_word5 (w : World) : (method 270 (kTy 5) (kPay 5) "loop.example/g00673/impl.word").run Tryd.prog w = .ok (127, .string (bs (nameN 5))) w := by kernel_rfl
theorem method_word6 (w : World) : (method 270 (kTy 6) (kPay 6) "loop.example/g00673/impl.word").run Tryd.prog w = .ok (127, .string (bs (nameN 6))) w := by kernel_rfl
theorem method_word7 (w : World) : (method 270 (kTy 7) (kPay 7) "loop.example/g00673/impl.word").run Tryd.prog w = .ok (127, .string (bs (nameN 7))) w := by kernel_rfl
theorem method_word8 (w : World) : (method 270 (kTy 8) (kPay 8) "loop.example/g00673/impl.word").run Tryd.prog w = .ok (127, .string (bs (nameN 8))) w := by kernel_rfl
theorem method_word9 (w : World) : (method 270 (kTy 9) (kPay 9) "loop.example/g00673/impl.word").run Tryd.prog w = .ok (127, .string (bs (nameN 9))) w := by kernel_rfl
theorem method_word10 (w : World) : (method 270 (kTy 10) (kPay 10) "loop.example/g00673/impl.word").run Tryd.prog w = .ok (127, .string (bs (nameN 10))) w := by kernel_rfl
theorem method_word (k : Nat) (hk : k < 11) (w : World) : (method 270 (kTy k) (kPay k) "loop.example/g00673/impl.word").run Tryd.prog w = .ok (127, .string (bs (nameN k))) w := by
  match k, hk with
  | 0, _ => exact method_word0 w
  | 1, _ => exact method_word1 w
  | 2, _ => exact method_word2 w
  | 3, _ => exact method_word3 w
  | 4, _ => exact method_word4 w
  | 5, _ => exact method_word5 w
  | 6, _ => exact method_word6 w
  | 7, _ => exact method_word7 w
  | 8, _ => exact method_word8 w
  | 9, _ => exact method_word9 w
  | 10, _ => exact method_word10 w
theorem word_any (b : ByteArray) (w : World) : Calls Tryd.prog 127 #[.string b] w fun e w' => e = .returned (.string b) ∧ w' = w := by
  go_enter Tryd.func127, Tryd.ntmps127
  go_wp2
  go_ret
  exact ⟨rfl, rfl⟩
set_option maxRecDepth 100000 in
set_option maxHeartbeats 1600000 in
theorem opOf_any (s : List UInt8) (w : World) : Calls Tryd.prog 55 #[.string (bs s)] w fun e w' => ∃ v, e = .returned (.int .i64 v) ∧ (∀ k : Nat, k < 11 → s = nameN k → v = k) ∧ Kept 0 0 w w' := by
  obtain ⟨b, hb⟩ : ∃ b, b = bs s := ⟨_, rfl⟩
  rw [← hb]
  have HB := Lib.hid hb
  clear hb
  go_enter Tryd.func55, Tryd.ntmps55
  go_wp2
  go_loopw [3] (fun i wr => ∃ j : Nat, j ≤ 11 ∧ i = .int .i64 j ∧ Hid (∀ k : Nat, k < j → s ≠ nameN k) ∧ Hid (Kept 0 0 w wr)) (fun i _ => 12 - (intOf i).toNat)
  case atStart => exact ⟨0, by omega, rfl, fun k hk => by omega, Kept.refl _ _ _⟩
  case round =>
    obtain ⟨j, hj, rfl, HN, HK⟩ := hrel
    by_cases hlt : j ≤ 10
    · have i1 : (j : Int) ≤ 10 := by omega
      have hi := fun W => method_word j (by omega) W
      obtain ⟨t, ht⟩ : ∃ t, t = kTy j := ⟨_, rfl⟩
      obtain ⟨p, hp⟩ : ∃ p, p = kPay j := ⟨_, rfl⟩
      obtain ⟨c, hc⟩ : ∃ c, c = bs (nameN j) := ⟨_, rfl⟩
      have CI := Lib.hid (instr_nat j (by omega) wr)
      rw [← ht, ← hp] at CI
      rw [← ht, ← hp, ← hc] at hi
      have HC := Lib.hid hc
      clear ht hp hc
      go_wp2_with fail
      with_reducible refine CI.out.mono ?_
      rintro e w1 ⟨rfl, rfl⟩
      go_wp2_with fail
      with_reducible refine (word_any c _).mono ?_
      rintro e w2 ⟨rfl, rfl⟩
      have q : (c.toList == b.toList) = decide (nameN j = s) := by rw [HB.out, bs_list, HC.out, bs_eq]
      by_cases hs : nameN j = s
      · rw [decide_eq_true hs] at q
        have HS := Lib.hid hs
        clear hs
        go_wp2_with fail
        go_ret
        exact ⟨j, rfl, fun k hk h => by
          have := name_inj ⟨k, hk⟩ ⟨j, by omega⟩ (by show nameN k = nameN j; rw [HS.out, h])
          injection this with e; rw [e], HK.out⟩
      · rw [decide_eq_false hs] at q
        have HS : Hid (∀ k : Nat, k < j + 1 → s ≠ nameN k) := fun k hk e => by
          rcases Nat.lt_or_ge k j with h' | h'
          · exact HN.out k h' e
          · have : k = j := by omega
            subst this
            exact hs e.symm
        clear hs
        go_wp2_with fail
        go_roundw
        case rel => exact ⟨j + 1, by omega, by go_num, HS, HK⟩
        case measure => simp [intOf]; omega
    · have i1 : ¬ (j : Int) ≤ 10 := by omega
      go_wp2_with fail
      go_ret
      exact ⟨-1, rfl, fun k hk h => absurd h (HN.out k (by omega)), HK.out⟩
end Go.Proofs.YtoccbmmjcbjacaaDoor
