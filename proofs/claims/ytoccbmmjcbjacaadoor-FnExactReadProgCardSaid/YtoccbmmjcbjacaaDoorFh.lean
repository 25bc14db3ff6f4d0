/- The reference's l1Int: how a number is written; no condition but that it is in range. -/
import Derived.Test.YtoccbmmjcbjacaaDoorFg
import Derived.Laws.IdiomStrings
namespace Go.Proofs.YtoccbmmjcbjacaaDoor
open Go.RowKit Go.Sort

/-- What is written behind some rounds, and what is left. -/
def IntSt (n : Nat) (l : List UInt8) (m : Nat) : Prop := (l = [] ∧ m = n) ∨ (l ≠ [] ∧ (if m = 0 then digs n = l else digs n = digs m ++ l))
theorem IntSt.len {n m : Nat} {l : List UInt8} (h : IntSt n l m) : l.length ≤ (digs n).length := by
  rcases h with ⟨rfl, _⟩ | ⟨_, h⟩
  · simp
  · split at h <;> (rw [h]; simp)
theorem IntSt.next {n m : Nat} {l : List UInt8} (h : IntSt n l m) (hc : l = [] ∨ m ≠ 0) : IntSt n (UInt8.ofNat (48 + m % 10) :: l) (m / 10) := by
  have hd : digs n = digs m ++ l := by
    rcases h with ⟨rfl, rfl⟩ | ⟨h0, h⟩
    · simp
    · rw [if_neg (by rcases hc with hc | hc <;> first | exact hc | exact absurd hc h0)] at h
      exact h
  refine .inr ⟨by simp, ?_⟩
  by_cases h10 : m < 10
  · rw [if_pos (by omega), hd, digs_lt h10, Nat.mod_eq_of_lt h10]; rfl
  · rw [if_neg (by omega), hd, digs_ge h10]; simp
theorem IntSt.done {n m : Nat} {l : List UInt8} (h : IntSt n l m) (h0 : l ≠ []) (hm : m = 0) : l = digs n := by
  rcases h with ⟨h, _⟩ | ⟨_, h⟩
  · exact absurd h h0
  · rw [if_pos hm] at h; exact h.symm
theorem bs_append (a b : List UInt8) : bs a ++ bs b = bs (a ++ b) := by
  apply ByteArray.ext
  simp [bs]
theorem ret_str {a b : ByteArray} (h : a = b) : Ending.returned (.string a) = Ending.returned (.string b) := by rw [h]
def noB : Value → Nat
  | .string s => if s.size = 0 then 1 else 0
  | _ => 0
theorem bs_size (l : List UInt8) : (bs l).size = l.length := by simp [bs, ByteArray.size]
theorem bs_list (l : List UInt8) : (bs l).toList = l := by simp [bs, ByteArray.toList_eq]

/-- The text of one byte. -/
theorem one_byte (w : World) (c : UInt8) (v : Int) (h : (c.toNat : Int) = v) : (convert 22 9 (.slice (some ⟨w.heap.size, 0, none⟩) 1 1)).run Tryd.prog (w.alloc (.cells #[.int .u8 v] 5)) = .ok (.string (bs [c])) (w.alloc (.cells #[.int .u8 v] 5)) := by
  refine run_convert_bytes_back _ _ _ 5 _ _ [c] Tryd.underlying22 Tryd.underlying5 Tryd.underlying9 ?_
  intro j hj
  have : j = 0 := by simpa using hj
  subst this
  rw [List.getElem_cons_zero, h]
  exact (Blk.new w 5 #[.int .u8 v]).cell 0
set_option maxHeartbeats 1600000 in
theorem int_any (n : Nat) (hn : n < 1000000000000) (w : World) : Calls Tryd.prog 58 #[.int .i64 n] w fun e w' => e = .returned (.string (bs (digs n))) ∧ Kept 0 0 w w' := by
  have gn : ¬ ((n : Int) < 0) := by omega
  go_enter Tryd.func58, Tryd.ntmps58
  go_wp2
  go_loopw [0, 3] (fun v s wr => ∃ (m : Nat) (l : List UInt8), v = .int .i64 m ∧ s = .string (bs l) ∧ m ≤ n ∧ IntSt n l m ∧ Hid (Kept 0 0 w wr)) (fun v s _ => (intOf v).toNat + noB s)
  case atStart => exact ⟨n, [], by rfl, by rfl, Nat.le_refl _, .inl ⟨rfl, rfl⟩, Kept.refl _ _ _⟩
  case round =>
    obtain ⟨m, l, rfl, rfl, hm, hst, HK⟩ := hrel
    obtain ⟨s, hs⟩ : ∃ s, s = bs l := ⟨_, rfl⟩
    rw [← hs]
    have HS := Lib.hid hs
    have HT := Lib.hid hst
    have i0 : ¬ ((m : Int) < 0) := by omega
    have i1 : ¬ ((m : Int) % 10 < 0) := by omega
    have i2 : (m : Int) % 10 ≤ 9 := by omega
    have hd : ((UInt8.ofNat (48 + m % 10)).toNat : Int) = 48 + (m : Int) % 10 := by rw [byte_of (Nat.mod_lt _ (by omega))]; omega
    have CV := one_byte wr _ _ hd
    obtain ⟨d, hdd⟩ : ∃ d, d = UInt8.ofNat (48 + m % 10) := ⟨_, rfl⟩
    rw [← hdd] at CV
    have HD := Lib.hid hdd
    clear hd hdd
    have hz : (bs [d]).size + s.size ≤ 9223372036854775807 := by
      have h1 := hst.len
      have h2 := digs_len n 12 (by omega) (by omega)
      rw [hs, bs_size, bs_size]
      simp only [List.length_cons, List.length_nil]
      omega
    have nx : bs [d] ++ s = bs (d :: l) := by rw [hs, bs_append]; rfl
    have NX := Lib.hid nx
    clear nx
    by_cases hl : l = []
    · have HL := Lib.hid hl
      have ge : s.toList.isEmpty = true := by rw [hs, bs_list, hl]; rfl
      have sz : Hid (s.size = 0) := by show _ = _; rw [hs, bs_size, hl]; rfl
      clear hs hst hl
      go_wp2_with fail
      go_roundw
      case rel => exact ⟨m / 10, d :: l, by go_num, by rw [← NX.out], by omega, by rw [HD.out]; exact HT.out.next (.inl HL.out), HK.out.alloc _⟩
      case measure => have h0 := sz.out; have h1 : (bs [d] ++ s).size ≠ 0 := (by rw [ByteArray.size_append, bs_size]; simp); simp only [intOf, noB]; rw [if_neg h1, if_pos h0]; omega
    · have HL := Lib.hid hl
      have ge : s.toList.isEmpty = false := by rw [hs, bs_list]; simpa using hl
      have sz : Hid (s.size ≠ 0) := by show _ ≠ _; rw [hs, bs_size]; simpa using hl
      clear hs hst hl
      by_cases hm0 : m = 0
      · have HM := Lib.hid hm0
        have g0 : ((m : Int) != 0) = false := by simp [hm0]
        clear hm0
        go_wp2_with fail
        go_ret
        exact ⟨ret_str (by rw [HS.out, HT.out.done HL.out HM.out]), HK.out⟩
      · have HM := Lib.hid hm0
        have g0 : ((m : Int) != 0) = true := by simpa using hm0
        clear hm0
        go_wp2_with fail
        go_roundw
        case rel => exact ⟨m / 10, d :: l, by go_num, by rw [← NX.out], by omega, by rw [HD.out]; exact HT.out.next (.inr HM.out), HK.out.alloc _⟩
        case measure => have h0 := sz.out; have h2 := HM.out; have h1 : (bs [d] ++ s).size ≠ 0 := (by rw [ByteArray.size_append, bs_size]; simp); simp only [intOf, noB]; rw [if_neg h1, if_neg h0]; omega
end Go.Proofs.YtoccbmmjcbjacaaDoor
