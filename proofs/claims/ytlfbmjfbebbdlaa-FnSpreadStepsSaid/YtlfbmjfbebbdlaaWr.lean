/- The program's notifyingOf; no condition beyond that the slices can be read. -/
import Derived.Test.YtlfbmjfbebbdlaaWq
namespace Go.Proofs.Ytlfbmjfbebbdlaa
open Go.RowKit Go.Sort

section
variable {w w' : World} {lo b g c d : Nat} {A D : Option Addr} {t : List Nd} {s : Spr} {q : List Int}
theorem RingQ.blk (h : RingQ w g q) : ∃ cs, Blk w g 92 cs := by obtain ⟨cs, f, h⟩ := h; exact ⟨_, h.blk⟩
/-- The ring alone is turned. -/
theorem Ntf.ringed (h : Ntf w lo b g A c t D d s) (hk : Kept g (g + 1) w w') (hr : RingQ w' g q) : Ntf w' lo b g A c t D d ⟨s.told, q⟩ := by
  obtain ⟨cs, hb⟩ := h.ring.blk
  have hne := blk_ne h.blk hb (by decide)
  exact ⟨blk_beside h.blk hne hk, h.tree.kept h.top hk (.inr h.hg), row_other h.told (row_ne h.told hb (by decide)) hk, hr, h.hb, h.hg⟩
end

/-- What notifyingOf leaves. -/
def NtfPost (lo : Nat) (A : Option Addr) (c : Nat) (t : List Nd) (s : Spr) (e : Ending) (w' : World) : Prop :=
  (spreadB t s = true → ∃ b g D d, e = .returned (.tuple #[.pointer (some ⟨b, 0, none⟩), .bool true]) ∧ Ntf w' lo b g A c t D d s) ∧ (spreadB t s = false → e = .returned (.tuple #[.pointer none, .bool false]))
theorem zeroRing : Try.zeroCells92 = (ringCells (List.replicate 240 0) 0 0).toArray := by kernel_rfl
set_option maxHeartbeats 3200000 in
set_option maxRecDepth 100000 in
theorem notifying_any (t : List Nd) (s : Spr) (A : Option Addr) (c : Nat) (u : Value) (w : World) (h : RdNd w w.heap.size (.slice A t.length c) t) (h' : RdS w w.heap.size u s) :
    Calls Try.prog 36 #[.slice A t.length c, u] w fun e w' => Kept 0 0 w w' ∧ NtfPost w.heap.size A c t s e w' := by
  have HT := Lib.hid h
  have HS := Lib.hid h'
  clear h
  obtain ⟨hv, lv, rfl, ⟨A1, c1, rfl, s1⟩, ⟨A2, c2, rfl, s2⟩⟩ := h'
  have m1 := s1.rd.1
  have m2 := s2.rd.1
  unfold maxLen at m1 m2
  have S1 := Lib.hid s1
  have S2 := Lib.hid s2.rd
  obtain ⟨W, hW⟩ : ∃ W, W = w.alloc (.cells #[.slice A1 s.told.length c1, .slice A2 s.work.length c2] 31) := ⟨_, rfl⟩
  have KW : Hid (Kept 0 0 w W) := by show Kept _ _ _ _; rw [hW]; exact Kept.alloc0 _ _
  have B0 : Hid (Blk W w.heap.size 31 #[.slice A1 s.told.length c1, .slice A2 s.work.length c2]) := by show Blk _ _ _ _; rw [hW]; exact Blk.new _ _ _
  have CO := Lib.hid (implSpreadOk t s _ _ W (HT.out.up KW.out) (HS.out.up KW.out))
  have zW : w.heap.size < W.heap.size := by rw [hW]; simp
  have HW := Lib.hid hW
  clear hW s1 s2
  go_enter Try.func36, Try.ntmps36
  have b0 := bz0 B0.out
  have b1 := bz1 B0.out
  go_upto_region 1 with fail
  rw [← HW.out]
  go_wp2_with fail
  with_reducible refine CO.out.mono ?_
  rintro e w1 ⟨rfl, hk⟩
  have K1 := Lib.hid (KW.out.trans hk)
  have B1 := Lib.hid (B0.out.kept hk (.inl (Nat.le_refl _)))
  have z1 := hk.size
  clear hk CO KW B0 HW b0 b1
  cases q1 : spreadB t s
  · have Q0 := Lib.hid q1
    clear q1
    go_wp2
    go_ret2
    exact ⟨K1.out, fun h => absurd h (by rw [Q0.out]; decide), fun _ => rfl⟩
  have HP := Lib.hid (spreadB_true.1 q1)
  have Q1 := Lib.hid q1
  clear q1
  have b0 := bz0 B1.out
  have b1 := bz1 B1.out
  have n1 : s.told.length ≤ 60 := by have := HP.out.told; have := HP.out.tree.len; omega
  have n2 : s.work.length ≤ 240 := HP.out.cap
  have CC := Lib.hid (cloneB_any s.told (.slice A1 s.told.length c1) w1 ⟨A1, c1, rfl, S1.out.up K1.out⟩ (by omega))
  go_upto_region 3 with fail
  go_wp2_with fail
  with_reducible refine CC.out.mono ?_
  rintro e w2 ⟨_, rfl, ⟨D, d, rfl, o1⟩, hk⟩
  have O1 := Lib.hid o1
  have K2 := Lib.hid (K1.out.trans hk)
  have B2 := Lib.hid (B1.out.kept hk (.inl (Nat.le_refl _)))
  have z2 := hk.size
  clear hk o1 CC B1 K1 b0 b1
  go_upto_region 4 with fail
  obtain ⟨V, hV⟩ : ∃ V, V = (w2.alloc (.cells Try.zeroCells92 92)).alloc (.cells #[.slice A t.length c, .slice D s.told.length d, .pointer (some ⟨w2.heap.size, 0, none⟩)] 67) := ⟨_, rfl⟩
  rw [← hV]
  have KV : Kept 0 0 w2 V := by rw [hV]; exact (Kept.alloc0 _ _).alloc _
  have NV : Hid (Ntf V w.heap.size (w2.heap.size + 1) w2.heap.size A c t D d ⟨s.told, []⟩) := by
    refine ⟨?_, ?_, ?_, ?_, by omega, by omega⟩
    · rw [hV]
      have := Blk.new (w2.alloc (.cells Try.zeroCells92 92)) 67 #[.slice A t.length c, .slice D s.told.length d, .pointer (some ⟨w2.heap.size, 0, none⟩)]
      simpa using this
    · exact HT.out.kept (Nat.le_refl _) (K2.out.trans KV) (.inl (Nat.le_refl _))
    · exact row_kept (ownsRow_lo O1.out.1 (by omega)) KV
    · refine ⟨_, _, Ring.zero ?_⟩
      rw [hV, ← zeroRing]
      exact (Blk.new _ _ _).alloc _
  have B3 := Lib.hid (B2.out.kept KV (.inl (Nat.le_refl _)))
  have K3 := Lib.hid (K2.out.trans KV)
  clear hV KV B2 K2 O1
  have b1 := bz1 B3.out
  obtain ⟨b, hb⟩ : ∃ b, b = w2.heap.size + 1 := ⟨_, rfl⟩
  obtain ⟨g, hg⟩ : ∃ g, g = w2.heap.size := ⟨_, rfl⟩
  rw [← hb, ← hg] at NV
  rw [← hb, ← hg]
  have hgw : w.heap.size ≤ g := by omega
  clear hb hg z2
  go_wp2_with fail
  clear b1
  go_loopw [24] (fun i wr => ∃ k : Nat, k ≤ s.work.length ∧ i = .int .i64 k ∧ Hid (Ntf wr w.heap.size b g A c t D d ⟨s.told, s.work.take k⟩) ∧ Hid (Kept 0 0 w wr)) (fun i _ => s.work.length - (intOf i).toNat)
  case atStart => exact ⟨0, Nat.zero_le _, rfl, by rw [List.take_zero]; exact NV, K3⟩
  case round =>
    clear NV K3 B3
    obtain ⟨k, hk, rfl, HN, HK⟩ := hrel
    by_cases hlt : k < s.work.length
    · obtain ⟨ad, rfl, _, c0⟩ := (S2.out.kept (Nat.le_refl _) HK.out (.inl (Nat.le_refl _))).i hlt
      have i1 : (k : Int) < (s.work.length : Int) := by omega
      obtain ⟨x, hx⟩ : ∃ x, x = s.work[k] := ⟨_, rfl⟩
      rw [← hx] at c0
      have E : Hid (s.work.take k ++ [x] = s.work.take (k + 1)) := by show _ = _; rw [List.take_succ_eq_append_getElem hlt, hx]
      have n2 := HN.out.n2
      have CP := Lib.hid (push_any g (s.work.take k) x wr HN.out.ring (by simp; omega))
      clear hx
      go_wp2_with fail
      with_reducible refine CP.out.mono ?_
      rintro e w3 ⟨rfl, hr, hk3⟩
      have N2 : Hid (Ntf w3 w.heap.size b g A c t D d ⟨s.told, s.work.take (k + 1)⟩) := by
        rw [← E.out]
        exact HN.out.ringed hk3 hr
      have K4 := Lib.hid (HK.out.trans2 hk3 (.inr hgw))
      clear hr hk3 HN HK n2 c0 CP
      go_wp2_with fail
      go_roundw
      case rel => exact ⟨k + 1, by omega, by go_num, N2, K4⟩
      case measure => simp [intOf]; omega
    · have N2 : Hid (Ntf wr w.heap.size b g A c t D d s) := by
        have := HN.out
        rw [List.take_of_length_le (by omega)] at this
        exact this
      go_wp2
      go_ret2
      exact ⟨HK.out, fun _ => ⟨b, g, D, d, rfl, N2.out⟩, fun h => absurd h (by rw [Q1.out]; decide)⟩
end Go.Proofs.Ytlfbmjfbebbdlaa
