/- The reference's l1Split: a line parted at each byte; condition: the line has at most 4294967280 bytes. -/
import Derived.Test.YtoccbmmjcbjacaaDoorFk
namespace Go.Proofs.YtoccbmmjcbjacaaDoor
open Go.RowKit Go.Sort

theorem bs_extract (s : List UInt8) (a b : Nat) : (bs s).extract a b = bs ((s.take b).drop a) := by
  apply ByteArray.ext
  simp [bs, List.drop_take]
/-- What is parted off behind some rounds. -/
structure SplSt (b : UInt8) (s : List UInt8) (ws : List (List UInt8)) (f i : Nat) : Prop where
  hi : i ≤ s.length
  hf : f ≤ i
  eq : splitB b s = ws ++ splitB b (s.drop f)
  no : b ∉ (s.take i).drop f
theorem SplSt.start (b : UInt8) (s : List UInt8) : SplSt b s [] 0 0 := ⟨Nat.zero_le _, Nat.le_refl _, rfl, by simp⟩
theorem take_succ_drop {s : List UInt8} {f i : Nat} (hf : f ≤ i) (hi : i < s.length) : (s.take (i + 1)).drop f = (s.take i).drop f ++ [s[i]] := by
  rw [List.take_succ_eq_append_getElem hi, List.drop_append_of_le_length (by simp; omega)]
theorem SplSt.miss {b : UInt8} {s : List UInt8} {ws : List (List UInt8)} {f i : Nat} (h : SplSt b s ws f i) (hi : i < s.length) (hb : s[i] ≠ b) : SplSt b s ws f (i + 1) :=
  ⟨hi, by have := h.hf; omega, h.eq, by
    rw [take_succ_drop h.hf hi]
    intro hm
    rcases List.mem_append.1 hm with hm | hm
    · exact h.no hm
    · simp only [List.mem_cons, List.not_mem_nil, or_false] at hm
      exact hb hm.symm⟩
theorem drop_parts {s : List UInt8} {f i : Nat} (hf : f ≤ i) (hi : i < s.length) : s.drop f = (s.take i).drop f ++ s[i] :: s.drop (i + 1) := by
  have e : s.drop f = (s.take i).drop f ++ s.drop i := by
    conv => lhs; rw [← List.take_append_drop i s]
    rw [List.drop_append_of_le_length (by simp; omega)]
  rw [e, List.drop_eq_getElem_cons hi]
theorem SplSt.hit {b : UInt8} {s : List UInt8} {ws : List (List UInt8)} {f i : Nat} (h : SplSt b s ws f i) (hi : i < s.length) (hb : s[i] = b) : SplSt b s (ws ++ [(s.take i).drop f]) (i + 1) (i + 1) :=
  ⟨hi, Nat.le_refl _, by
    rw [h.eq, drop_parts h.hf hi, hb, splitB_cut _ _ _ h.no, List.append_assoc]; rfl, by
    rw [List.drop_eq_nil_of_le (by simp; omega)]; simp⟩
theorem SplSt.done {b : UInt8} {s : List UInt8} {ws : List (List UInt8)} {f i : Nat} (h : SplSt b s ws f i) (hi : i = s.length) : ws ++ [(s.take i).drop f] = splitB b s := by
  have hn := h.no
  rw [hi, List.take_length] at hn ⊢
  rw [h.eq, splitB_plain _ _ hn]
theorem splitB_len (b : UInt8) (s : List UInt8) : (splitB b s).length ≤ s.length + 1 := by
  induction s with
  | nil => simp [splitB]
  | cons c r ih =>
    by_cases h : c = b
    · subst h; rw [splitB_hit]; simp; omega
    · rw [splitB_miss h]
      cases hw : splitB b r with
      | nil => exact absurd hw (splitB_ne b r)
      | cons w ws => rw [hw] at ih; simp [pushW] at ih ⊢; omega

set_option maxHeartbeats 1600000 in
theorem split_any (s : List UInt8) (b : UInt8) (hs : s.length ≤ 4294967280) (w : World) :
    Calls Tryd.prog 60 #[.string (bs s), .int .u8 b.toNat] w fun e w' => ∃ D d, e = .returned (.slice D (splitB b s).length d) ∧ OwnZ w' w.heap.size w'.heap.size 9 1 D (splitB b s).length d (sR.flat (splitB b s)) ∧ Kept 0 0 w w' := by
  have HS := Lib.hid sSlice
  obtain ⟨t, ht⟩ : ∃ t, t = bs s := ⟨_, rfl⟩
  rw [← ht]
  have hz : t.size = s.length := by rw [ht, bs_size]
  have HZ := Lib.hid hz
  have hts : t.size ≤ 4294967280 := by omega
  clear hz
  have HT := Lib.hid ht
  clear ht
  go_enter Tryd.func60, Tryd.ntmps60
  go_wp2
  go_loopw [5, 6, 7] (fun v f i wr => ∃ (m k : Nat) (D : Option Addr) (d : Nat) (ws : List (List UInt8)), i = .int .i64 k ∧ f = .int .i64 m ∧ v = .slice D ws.length d ∧ Hid ((k ≤ s.length ∧ SplSt b s ws m k) ∨ (k = s.length + 1 ∧ ws = splitB b s)) ∧ Hid (ws.length ≤ k) ∧ Hid (wr.ownsRow w.heap.size 9 1 (.slice D ws.length d) ws.length (sR.flat ws)) ∧ Hid (Kept 0 0 w wr)) (fun _ _ i _ => s.length + 2 - (intOf i).toNat)
  case atStart => exact ⟨0, 0, _, _, [], by rfl, by rfl, by rfl, .inl ⟨Nat.zero_le _, SplSt.start _ _⟩, Nat.le_refl _, own_emptyZ (Blk.new w 9 #[]) (Nat.le_refl _), Kept.alloc0 _ _⟩
  case round =>
    obtain ⟨m, k, D, d, ws, rfl, rfl, rfl, HI, HL, HO, HK⟩ := hrel
    have zk := HK.out.size
    by_cases hle : k ≤ s.length
    case neg =>
      have i1 : ¬ (k : Int) ≤ (t.size : Int) := by have := HZ.out; omega
      have E : Hid (ws = splitB b s) := by
        rcases HI.out with ⟨h, _⟩ | ⟨_, h⟩
        · exact absurd h hle
        · exact h
      go_wp2_with fail
      go_ret
      exact ⟨D, d, by rw [← E.out]; rfl, by rw [← E.out]; exact OwnZ.of_row HO.out, HK.out⟩
    have i1 : (k : Int) ≤ (t.size : Int) := by have := HZ.out; omega
    have HP : Hid (SplSt b s ws m k) := by
      rcases HI.out with ⟨_, h⟩ | ⟨h, _⟩
      · exact h
      · omega
    have hfm := HP.out.hf
    have hkz := HZ.out
    obtain ⟨p, hp⟩ : ∃ p, p = (s.take k).drop m := ⟨_, rfl⟩
    have hx : t.extract m k = bs p := by rw [HT.out, bs_extract, hp]
    by_cases hlt : k < s.length
    · have i2 : ((k : Int) == (t.size : Int)) = false := by simp; omega
      have hkt : k < t.size := by omega
      have gb : t[k] = s[k] := by
        have := HT.out
        subst this
        rfl
      have HKZ := Lib.hid hkz
      by_cases hb : s[k] = b
      · have HN : Hid (SplSt b s (ws ++ [p]) (k + 1) (k + 1)) := by show SplSt _ _ _ _ _; rw [hp]; exact HP.out.hit hlt hb
        have HLT := Lib.hid hlt
        rw [hb] at gb
        clear hkz hp HP HI hb
        go_wp2_with (at_builtin; go_must (refine wpList_app (R := sR) rfl (.tmp 26) (.tmp 31) rfl HS.out w.heap.size D d ws rfl (row_kept HO.out (Kept.alloc0 wr (.cells #[.string (bs p)] 9))) (wr.heap.size + 1) (some ⟨wr.heap.size, 0, none⟩) 1 [p] rfl (rd_litS wr p) (by have := HL.out; simp [maxLen]; omega) (by have := HL.out; simp; omega) (by simp; omega) ?_); intro D2 d2 w3 hown hgrow hat)
        have K3 := Lib.hid ((HK.out.alloc (.cells #[.string (bs p)] 9)).app hgrow (fun g hg => (own_row_lo HO.out g hg).1))
        have O3 := Lib.hid hown
        clear hown hgrow hat HO HK
        go_roundw
        case rel => exact ⟨k + 1, k + 1, D2, d2, ws ++ [p], by go_num, by go_num, by simp, .inl ⟨HLT.out, HN.out⟩, (by show _ ≤ _; have := HL.out; simp; omega), O3, K3⟩
        case measure => have := HLT.out; simp [intOf]; omega
      · have HN : Hid (SplSt b s ws m (k + 1)) := HP.out.miss hlt hb
        have HLT := Lib.hid hlt
        have i3 : (((s[k]).toNat : Int) == (b.toNat : Int)) = false := by
          have : (s[k]).toNat ≠ b.toNat := fun e => hb (UInt8.toNat_inj.1 e)
          simp; omega
        have HB := Lib.hid hb
        clear hkz hp HP HI hb
        go_wp2_with fail
        go_roundw
        case rel => exact ⟨m, k + 1, D, d, ws, by go_num, by rfl, by rfl, .inl ⟨HLT.out, HN.out⟩, (by show _ ≤ _; have := HL.out; omega), HO, HK⟩
        case measure => have := HLT.out; simp [intOf]; omega
    · have i2 : ((k : Int) == (t.size : Int)) = true := by simp; omega
      have hkt : k = t.size := by omega
      have HN : Hid (k = s.length ∧ ws ++ [p] = splitB b s) := by
        have e : k = s.length := by omega
        exact ⟨e, by rw [hp]; exact HP.out.done e⟩
      have HKZ := Lib.hid hkz
      have HKT := Lib.hid hkt
      clear hkz hp HP HI hkt
      · skip
        go_wp2_with (at_builtin; go_must (refine wpList_app (R := sR) rfl (.tmp 26) (.tmp 31) rfl HS.out w.heap.size D d ws rfl (row_kept HO.out (Kept.alloc0 wr (.cells #[.string (bs p)] 9))) (wr.heap.size + 1) (some ⟨wr.heap.size, 0, none⟩) 1 [p] rfl (rd_litS wr p) (by have := HL.out; simp [maxLen]; omega) (by have := HL.out; simp; omega) (by simp; omega) ?_); intro D2 d2 w3 hown hgrow hat)
        have K3 := Lib.hid ((HK.out.alloc (.cells #[.string (bs p)] 9)).app hgrow (fun g hg => (own_row_lo HO.out g hg).1))
        have O3 := Lib.hid hown
        clear hown hgrow hat HO HK
        go_roundw
        case rel => exact ⟨k + 1, k + 1, D2, d2, ws ++ [p], by go_num, by go_num, by simp, .inr ⟨by rw [HN.out.1], HN.out.2⟩, (by show _ ≤ _; have := HL.out; simp; omega), O3, K3⟩
        case measure => have := HN.out.1; simp [intOf]; omega
end Go.Proofs.YtoccbmmjcbjacaaDoor
