/- On paper: numerals are parsed as their numbers; where a text is cut; what an instruction's text falls into; what a program's text is split into. No program is named here. -/
import Derived.Test.YtoccbmmjcbjacaaDoorZt
namespace Go.Proofs.YtoccbmmjcbjacaaDoor

theorem parse_digs : ∀ (l : List UInt8) (acc : Nat), (∀ c ∈ l, isDig c = true) → l.foldl (fun a c => a * 10 + (c.toNat - 48)) acc ≤ 1000000000000000 → Lib.parseUintM (2 ^ 64 - 1) acc l = .ok (l.foldl (fun a c => a * 10 + (c.toNat - 48)) acc)
  | [], _, _, _ => rfl
  | c :: r, acc, hd, hb => by
    have hc := isDig_iff.1 (hd c (by simp))
    rw [List.foldl_cons] at hb ⊢
    have hm := num_mono r (acc * 10 + (c.toNat - 48))
    unfold Lib.parseUintM
    rw [if_pos hc, if_neg (by omega), if_neg (by omega)]
    exact parse_digs r _ (fun d h => hd d (by simp [h])) hb
theorem spells_digs (n : Nat) (h : n ≤ 1000000000000000) : spells (digs n) n := by
  have hn := digs_num n
  have ha := digs_all n
  have hne := digs_ne n
  unfold spells
  cases hd : digs n with
  | nil => exact absurd hd hne
  | cons c r =>
    rw [hd] at hn ha
    have hc := isDig_iff.1 (ha c (by simp))
    have hp : Lib.parseUintB 64 (c :: r) = .ok n := by
      unfold Lib.parseUintB
      rw [if_neg (by simp)]
      have := parse_digs (c :: r) 0 ha (by show numOf (c :: r) ≤ _; rw [hn]; exact h)
      rw [this]
      show Lib.NumEnd.ok (numOf (c :: r)) = _
      rw [hn]
    have e : (Lib.parseIntB 64 (c :: r)) = .ok (n : Int) := by
      have hn2 : ¬ c.toNat = 45 := by omega
      have hn3 : ¬ (c.toNat = 43 ∨ c.toNat = 45) := by omega
      simp only [Lib.parseIntB]
      rw [if_neg hn3, hp]
      simp only
      rw [if_neg (by omega), if_neg (by omega), if_neg hn2]
    exact e
theorem occ_one (u r : List UInt8) (b : UInt8) (j : Nat) (hj : j < u.length) (h : b ∉ u) : Lib.occAt (u ++ r) [b] j = false := by
  unfold Lib.occAt
  have : u[j] ≠ b := fun e => h (by rw [← e]; exact List.getElem_mem hj)
  have e : (u ++ r).drop j = u[j] :: (u.drop (j + 1) ++ r) := by rw [List.drop_append_of_le_length (by omega), List.drop_eq_getElem_cons hj]; rfl
  rw [e, List.isPrefixOf, beq_false_of_ne (Ne.symm this), Bool.false_and]
theorem cut_at (u r : List UInt8) (b : UInt8) (h : b ∉ u) : Lib.cut (u ++ b :: r) [b] = (u, r, true) := by
  have hi : Lib.index (u ++ b :: r) [b] = u.length := by
    refine Lib.index_first (by simp) ?_ fun j hj => occ_one u _ b j hj h
    unfold Lib.occAt
    rw [List.drop_left]
    simp [List.isPrefixOf]
  unfold Lib.cut
  rw [hi, if_pos (by omega), Int.toNat_natCast, List.take_left, ← List.drop_drop, List.drop_left]
  rfl
theorem cut_no (u : List UInt8) (b : UInt8) (h : b ∉ u) : Lib.cut u [b] = (u, [], false) := by
  have hi : Lib.index u [b] = -1 := by
    refine Lib.index_none fun j hj => ?_
    rcases Nat.lt_or_ge j u.length with hl | hl
    · have := occ_one u [] b j hl h
      rwa [List.append_nil] at this
    · unfold Lib.occAt
      rw [List.drop_of_length_le hl]; rfl
  unfold Lib.cut
  rw [hi, if_neg (by omega)]
theorem cut_len (s sep : List UInt8) : (Lib.cut s sep).1.length ≤ s.length ∧ (Lib.cut s sep).2.1.length ≤ s.length := by
  unfold Lib.cut
  split
  · simp only [List.length_take, List.length_drop]; omega
  · simp
/-- What an instruction's text falls into. -/
theorem parts_show (i : Ins) : (Lib.cut (showI i) [32]).1 = nameN i.op.toNat ∧ (Lib.cut (Lib.cut (showI i) [32]).2.1 [32]).1 = wordA i.a ∧ (Lib.cut (Lib.cut (showI i) [32]).2.1 [32]).2.1 = (if twoB i.op = true then intS i.b else []) := by
  have h1 := name_noblank i.op.toNat
  have h2 : (32 : UInt8) ∉ wordA i.a := wordA_no (by decide) (by decide) _
  have e : showI i = nameN i.op.toNat ++ 32 :: (if twoB i.op = true then wordA i.a ++ 32 :: intS i.b else wordA i.a) := by
    rw [showI_eq]
    split <;> simp
  rw [e, cut_at _ _ _ h1]
  refine ⟨rfl, ?_⟩
  by_cases ht : twoB i.op = true
  · simp only [ht, if_true]
    rw [cut_at _ _ _ h2]
    exact ⟨rfl, rfl⟩
  · rw [if_neg ht, if_neg ht]
    simp only
    rw [cut_no _ _ h2]
    exact ⟨rfl, rfl⟩
theorem occ_two (u r : List UInt8) (j : Nat) (hj : j < u.length) (h : (59 : UInt8) ∉ u) : Lib.occAt (u ++ r) [59, 32] j = false := by
  unfold Lib.occAt
  have : u[j] ≠ 59 := fun e => h (by rw [← e]; exact List.getElem_mem hj)
  have e : (u ++ r).drop j = u[j] :: (u.drop (j + 1) ++ r) := by rw [List.drop_append_of_le_length (by omega), List.drop_eq_getElem_cons hj]; rfl
  rw [e, List.isPrefixOf, beq_false_of_ne (Ne.symm this), Bool.false_and]
theorem index_two (u r : List UInt8) (h : (59 : UInt8) ∉ u) : Lib.index (u ++ 59 :: 32 :: r) [59, 32] = u.length := by
  refine Lib.index_first (by simp) ?_ fun j hj => occ_two u _ j hj h
  unfold Lib.occAt
  rw [List.drop_left]
  simp [List.isPrefixOf]
theorem index_two_no (u : List UInt8) (h : (59 : UInt8) ∉ u) : Lib.index u [59, 32] = -1 := by
  refine Lib.index_none fun j hj => ?_
  rcases Nat.lt_or_ge j u.length with hl | hl
  · have := occ_two u [] j hl h
    rwa [List.append_nil] at this
  · unfold Lib.occAt
    rw [List.drop_of_length_le hl]; rfl
/-- Texts without a semicolon, joined, are split into themselves. -/
theorem splitK_words : ∀ (ws : List (List UInt8)) (k : Nat), ws ≠ [] → (∀ w ∈ ws, (59 : UInt8) ∉ w) → ws.length ≤ k + 1 → Lib.splitK [59, 32] 0 k (joinW [59, 32] ws) = ws
  | [], _, h, _, _ => absurd rfl h
  | [w], 0, _, _, _ => rfl
  | [w], k + 1, _, h, _ => by
    have hi := index_two_no w (h w (by simp))
    show Lib.splitK [59, 32] 0 (k + 1) w = [w]
    unfold Lib.splitK
    rw [hi]; rfl
  | w :: v :: r, 0, _, _, hl => by simp at hl
  | w :: v :: r, k + 1, _, h, hl => by
    have e : joinW [59, 32] (w :: v :: r) = w ++ 59 :: 32 :: joinW [59, 32] (v :: r) := by rw [joinW_cons _ _ (by simp)]; simp
    have hi := index_two w (joinW [59, 32] (v :: r)) (h w (by simp))
    rw [e]
    unfold Lib.splitK
    have hne : ¬ ((w.length : Int) == -1) = true := by simp
    rw [hi, if_neg hne, Int.toNat_natCast, Nat.add_zero, List.take_left]
    have hd : (w ++ 59 :: 32 :: joinW [59, 32] (v :: r)).drop (w.length + [(59 : UInt8), 32].length) = joinW [59, 32] (v :: r) := by
      rw [← List.drop_drop, List.drop_left]; rfl
    rw [hd, splitK_words (v :: r) k (by simp) (fun x hx => h x (by simp [hx])) (by simp at hl ⊢; omega)]
/-- A program's text, not the empty one, is split into its instructions' texts. -/
theorem splitN_show {l : List Ins} (h : progB l = true) (hne : l ≠ []) : Lib.splitN (showP l) [59, 32] 13 = l.map showI := by
  have hp := progB_iff.1 h
  unfold Lib.splitN showP
  rw [if_pos h]
  have hl : (l.map showI).length ≤ min 13 ((joinW [59, 32] (l.map showI)).length + 1) - 1 + 1 := by
    have : (l.map showI).length ≤ (joinW [59, 32] (l.map showI)).length := by
      clear h hne hp
      induction l with
      | nil => simp [joinW]
      | cons i r ih =>
        have h1 : 1 ≤ (showI i).length := by
          cases hs : showI i with
          | nil => exact absurd hs (showI_ne i)
          | cons c t => simp
        cases r with
        | nil => simpa [joinW] using h1
        | cons j r =>
          rw [List.map_cons, List.map_cons, joinW_cons _ _ (by simp), ← List.map_cons]
          rw [List.length_cons, List.length_append, List.length_append]
          simp only [List.length_cons, List.length_nil, List.length_map] at ih ⊢
          omega
    have h12 := hp.2
    rw [List.length_map] at this ⊢
    omega
  refine splitK_words _ _ (by simpa using hne) ?_ hl
  intro w hw
  obtain ⟨i, hi, rfl⟩ := List.mem_map.1 hw
  exact showI_nosemi (hp.1 i hi)
theorem splitN_len (s : List UInt8) : (Lib.splitN s [59, 32] 13).length ≤ 13 := by
  have := Lib.splitB_length_le (bs [59, 32]) 0 (min 13 (s.length + 1) - 1) (bs s)
  have e := Lib.splitB_data (bs [59, 32]) 0 (min 13 (s.length + 1) - 1) (bs s)
  unfold Lib.splitN
  rw [show Lib.splitK [59, 32] 0 (min 13 (s.length + 1) - 1) s = _ from e.symm, List.length_map]
  omega
theorem splitK_mem (sep : List UInt8) : ∀ (k : Nat) (s w : List UInt8), w ∈ Lib.splitK sep 0 k s → w.length ≤ s.length
  | 0, s, w, h => by
    simp only [Lib.splitK, List.mem_cons, List.not_mem_nil, or_false] at h
    rw [h]; exact Nat.le_refl _
  | k + 1, s, w, h => by
    unfold Lib.splitK at h
    split at h
    · simp only [List.mem_cons, List.not_mem_nil, or_false] at h
      rw [h]; exact Nat.le_refl _
    · rcases List.mem_cons.1 h with rfl | h
      · simp; omega
      · have := splitK_mem sep k _ w h
        rw [List.length_drop] at this
        omega
end Go.Proofs.YtoccbmmjcbjacaaDoor
