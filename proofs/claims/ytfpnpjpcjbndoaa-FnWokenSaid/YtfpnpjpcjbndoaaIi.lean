/- FnWoken on paper, and the law's own has and likeInts; no condition beyond that the slices can be read. -/
import Derived.Test.YtfpnpjpcjbndoaaIe
namespace Go.Proofs.Ytfpnpjpcjbndoaa
open Go.RowKit Go.Sort

set_option maxHeartbeats 800000 in
theorem hasL_any (xs : List Int) (x : Int) (v : Value) (w : World) (h : RdI w w.heap.size v xs) :
    Calls Try.prog 17 #[v, .int .i64 x] w fun e w' => e = .returned (.bool (decide (x ∈ xs))) ∧ Kept 0 0 w w' := by
  obtain ⟨A, c, rfl, h⟩ := h
  have hl := h.rd.1
  unfold maxLen at hl
  have H := Lib.hid h.rd
  clear h
  go_enter Try.func17, Try.ntmps17
  go_wp2
  go_loopw [5] (fun i wr => ∃ k : Nat, k ≤ xs.length ∧ i = .int .i64 k ∧ Hid (∀ i (h : i < xs.length), i < k → xs[i] ≠ x) ∧ Hid (Kept 0 0 w wr)) (fun i _ => xs.length - (intOf i).toNat)
  case atStart => exact ⟨0, Nat.zero_le _, rfl, Lib.hid (fun i _ h => by omega), Lib.hid (Kept.refl _ _ _)⟩
  case round =>
    obtain ⟨k, hk, rfl, HN, HK⟩ := hrel
    by_cases hlt : k < xs.length
    · obtain ⟨ad, rfl, _, c0⟩ := (H.out.kept (Nat.le_refl _) HK.out (.inl (Nat.le_refl _))).i hlt
      have i1 : (k : Int) < (xs.length : Int) := by omega
      by_cases he : xs[k] = x
      · have E : Hid (decide (x ∈ xs) = true) := by show _ = _; rw [← he]; simp
        rw [he] at c0
        clear he
        go_wp2
        go_ret
        exact ⟨ret_bool E.out.symm, HK.out⟩
      · have he' : (xs[k] == x) = false := by simpa using he
        have HN2 : Hid (∀ i (h : i < xs.length), i < k + 1 → xs[i] ≠ x) := fun i hi hik => by
          rcases Nat.lt_or_ge i k with h' | h'
          · exact HN.out i hi h'
          · obtain rfl : i = k := by omega
            exact he
        clear he
        go_wp2
        go_roundw
        case rel => exact ⟨k + 1, by omega, by go_num, HN2, HK⟩
        case measure => simp [intOf]; omega
    · have E : Hid (decide (x ∈ xs) = false) := by
        show _ = _
        rw [decide_eq_false_iff_not]
        intro hx
        obtain ⟨i, hi, he⟩ := List.getElem_of_mem hx
        exact HN.out i hi (by omega) he
      go_wp2
      go_ret
      exact ⟨ret_bool E.out.symm, HK.out⟩
set_option maxHeartbeats 800000 in
theorem likeIS_any (xs : List Int) (A A' : Option Addr) (c c' B B' : Nat) (w : World) (h : RdR iR w B A xs) (h' : RdR iR w B' A' xs) :
    Calls Try.prog 14 #[.slice A xs.length c, .slice A' xs.length c'] w fun e w' => e = .returned (.bool true) ∧ Kept 0 0 w w' := by
  have hx := h.1
  unfold maxLen at hx
  have H := Lib.hid h
  have H' := Lib.hid h'
  clear h h'
  have hb : (((xs.length : Int)) != ((xs.length : Int))) = false := by simp
  go_enter Try.func14, Try.ntmps14
  go_wp2
  go_loopw [5] (fun i wr => ∃ k : Nat, k ≤ xs.length ∧ i = .int .i64 k ∧ Hid (Kept 0 0 w wr) ∧ Hid (RdR iR wr B A xs) ∧ Hid (RdR iR wr B' A' xs)) (fun i _ => xs.length - (intOf i).toNat)
  case atStart => exact ⟨0, Nat.zero_le _, rfl, Lib.hid (Kept.refl _ _ _), H, H'⟩
  case round =>
    clear H H'
    obtain ⟨k, hk, rfl, HK, H, H'⟩ := hrel
    by_cases hlt : k < xs.length
    · obtain ⟨ad, rfl, _, c0⟩ := H.out.i hlt
      obtain ⟨ad', rfl, _, d0⟩ := H'.out.i hlt
      have i1 : (k : Int) < (xs.length : Int) := by omega
      go_wp2_with fail
      go_quiet (fail)
      clear c0 d0
      go_wp2
      go_roundw
      case rel => exact ⟨k + 1, by omega, by go_num, Lib.hid (HK.out.drewN _), H, H'⟩
      case measure => simp [intOf]; omega
    · go_wp2
      go_ret
      exact ⟨rfl, HK.out⟩
theorem likeI (xs : List Int) (v v' : Value) (w : World) (h : RdI w w.heap.size v xs) (h' : RdI w w.heap.size v' xs) :
    Calls Try.prog 14 #[v, v'] w fun e w' => e = .returned (.bool true) ∧ Kept 0 0 w w' := by
  obtain ⟨A, c, rfl, h⟩ := h
  obtain ⟨A', c', rfl, h'⟩ := h'
  exact likeIS_any xs A A' c c' _ _ w h.rd h'.rd
theorem ready_keeps {t : Tk} (h : tkB t = true) (r : Int) : tkB (readyT t r) = true := by
  unfold readyT
  rw [if_pos h]
  split
  · exact h
  · unfold eitherT
    split
    · assumption
    · exact h
theorem woken_keeps {l : List Tk} (hb : tasksB l = true) (y h r : Int) : tasksB (wokenL l y h r) = true := by
  obtain ⟨h1, h2⟩ := tasksB_iff.1 hb
  unfold wokenL
  rw [if_pos hb, tasksB_iff]
  refine ⟨fun x hx => ?_, by rw [List.length_map]; exact h2⟩
  obtain ⟨t, ht, rfl⟩ := List.mem_map.1 hx
  split
  · exact ready_keeps (h1 t ht) r
  · exact h1 t ht
theorem woken_len {l : List Tk} (hb : tasksB l = true) (y h r : Int) : (wokenL l y h r).length = l.length := by
  unfold wokenL
  rw [if_pos hb, List.length_map]
theorem woken_at {l : List Tk} (hb : tasksB l = true) (y h r : Int) {k : Nat} (hk : k < l.length) (hk' : k < (wokenL l y h r).length) : (wokenL l y h r)[k] = if isPk y h l[k] = true then readyT l[k] r else l[k] := by
  simp only [wokenL, if_pos hb, List.getElem_map]
theorem ready_one {t : Tk} (h : tkB t = true) (hs : t.st = 1) (hp : t.pc < 12) : (readyT t 1).st = 0 ∧ (readyT t 1).reg = 1 := by
  have hb : tkB ⟨t.prog, t.pc + 1, 0, 0, 0, -1, 1, t.grp, t.err⟩ = true := by
    simp only [tkB, restB, inT, hs, if_pos, Bool.and_eq_true, decide_eq_true_eq] at h
    simp [tkB, restB, inT]
    omega
  unfold readyT
  rw [if_pos h, if_neg (by omega)]
  unfold eitherT
  rw [if_pos hb]
  exact ⟨rfl, rfl⟩
theorem woken_one {l : List Tk} (hb : tasksB l = true) {y h : Int} {k : Nat} (hk : k < l.length) (hk' : k < (wokenL l y h 1).length) (hp : isPk y h l[k] = true) (hc : l[k].pc < 12) : (wokenL l y h 1)[k].st = 0 ∧ (wokenL l y h 1)[k].reg = 1 := by
  rw [woken_at hb y h 1 hk hk', if_pos hp]
  have hs : l[k].st = 1 := by simp [isPk] at hp; exact hp.1
  exact ready_one ((tasksB_iff.1 hb).1 _ (List.getElem_mem hk)) hs hc
theorem woken_ready {l : List Tk} (hb : tasksB l = true) {y h : Int} {k : Nat} (hk : k < l.length) (hk' : k < (wokenL l y h 1).length) (hp : isPk y h l[k] = true) (hc : l[k].pc < 12) : (k : Int) ∈ readyL (wokenL l y h 1) := by
  unfold readyL
  rw [if_pos (woken_keeps hb y h 1), mem_idx hk']
  have := (woken_one hb hk hk' hp hc).1
  simp [isRdy, this]
theorem woken_other {l : List Tk} (hb : tasksB l = true) {y h : Int} {k : Nat} (hk : k < l.length) (hk' : k < (wokenL l y h 1).length) (hp : isPk y h l[k] = false) : (wokenL l y h 1)[k] = l[k] := by
  rw [woken_at hb y h 1 hk hk', if_neg (by rw [hp]; decide)]
theorem parked_in {l : List Tk} (hb : tasksB l = true) {y h : Int} {k : Nat} (hk : k < l.length) : (k : Int) ∈ parkedL l y h ↔ isPk y h l[k] = true := by
  unfold parkedL
  rw [if_pos hb, mem_idx hk]
theorem woken_nil {l : List Tk} (hb : tasksB l = false) (y h r : Int) : wokenL l y h r = [] := by simp [wokenL, hb]
end Go.Proofs.Ytfpnpjpcjbndoaa
