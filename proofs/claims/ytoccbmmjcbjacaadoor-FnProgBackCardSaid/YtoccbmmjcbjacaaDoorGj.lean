/- Bytes in memory, and the bending of a text by the draws; condition: the code can be read and has at most 4096 bytes, the text at most 1000. -/
import Derived.Test.YtoccbmmjcbjacaaDoorGi
import Derived.Test.YtoccbmmjcbjacaaDoorFk
import Derived.Lib.ConvBytes
import Derived.Deep.RegionLaw
namespace Go.Proofs.YtoccbmmjcbjacaaDoor
open Go.RowKit Go.Sort

set_option maxHeartbeats 800000 in
theorem belowV_any (xs : List Int) (A : Option Addr) (c g : Nat) (n : Int) (w : World) (h : Cur w g A c xs) (h1 : 257 ≤ n) (h2 : n ≤ 100000) :
    Calls Tryd.prog 40 #[.pointer (some ⟨g, 0, none⟩), .int .i64 n] w (Drawn (fun r => 0 ≤ r ∧ r < n) g A c xs w) := by
  have H := Lib.hid h
  clear h
  go_enter Tryd.func40, Tryd.ntmps40
  go_wp2_with fail
  with_reducible refine (byte_any _ _ _ _ _ H.out).mono ?_
  rintro e w1 ⟨r1, rfl, ⟨hr0, hr1⟩, hc, hk⟩
  have HC1 := Lib.hid hc
  have HK1 := Lib.hid hk
  clear hc hk H
  go_wp2_with fail
  with_reducible refine (byte_any _ _ _ _ _ HC1.out).mono ?_
  rintro e w2 ⟨r2, rfl, ⟨hr2, hr3⟩, hc, hk⟩
  have HC2 := Lib.hid hc
  have HK2 := Lib.hid (HK1.out.trans hk)
  clear hc hk HC1 HK1
  go_wp2_with fail
  with_reducible refine (byte_any _ _ _ _ _ HC2.out).mono ?_
  rintro e w3 ⟨r3, rfl, ⟨hr4, hr5⟩, hc, hk⟩
  have HC3 := Lib.hid hc
  have HK3 := Lib.hid (HK2.out.trans hk)
  clear hc hk HC2 HK2
  go_wp2_with fail
  with_reducible refine (byte_any _ _ _ _ _ HC3.out).mono ?_
  rintro e w4 ⟨r4, rfl, ⟨hr6, hr7⟩, hc, hk⟩
  have HC4 := Lib.hid hc
  have HK4 := Lib.hid (HK3.out.trans hk)
  clear hc hk HC3 HK3
  go_wp2
  go_ret
  have a1 := Int.emod_nonneg (r1 * 16777216 + r2 * 65536 + r3 * 256 + r4) (show n ≠ 0 by omega)
  have a2 := Int.emod_lt_of_pos (r1 * 16777216 + r2 * 65536 + r3 * 256 + r4) (show 0 < n by omega)
  exact ⟨_, rfl, ⟨by omega, by omega⟩, HC4.out, HK4.out⟩

theorem belowN_any (xs : List Int) (A : Option Addr) (c g : Nat) (n : Int) (w : World) (h : Cur w g A c xs) (h1 : 1 ≤ n) (h2 : n ≤ 100000) :
    Calls Tryd.prog 40 #[.pointer (some ⟨g, 0, none⟩), .int .i64 n] w (Drawn (fun r => 0 ≤ r ∧ r < n) g A c xs w) := by
  rcases Int.lt_or_le 256 n with h' | h'
  · exact belowV_any xs A c g n w h (by omega) h2
  · exact below_any xs A c g n w h h1 h'
/-- How a byte lies in memory. -/
def uR : Rec UInt8 := ⟨1, fun x => [.int .u8 x.toNat], fun _ => rfl, by decide, fun x u hu => by
  simp only [List.mem_cons, List.not_mem_nil, or_false] at hu
  rcases hu with rfl; rfl⟩
theorem uR_k : uR.k = 1 := rfl
theorem Tryd.infoU8 : (Tryd.prog.info? 5).map (fun i => (i.zero, i.size, i.bytes)) = some (some (.int .u8 0), 1, 1) := by kernel_rfl
theorem uSlice : SliceOf Tryd.prog 22 5 uR.k 1 := SliceOf.of Tryd.underlying22 Tryd.infoU8 rfl
/-- Bytes in a block of the call's own, from its start on, none of them frozen. -/
structure Byt (w : World) (lo g c : Nat) (l : List UInt8) : Prop where
  lo : lo ≤ g
  cap : l.length ≤ c
  obj : ∃ cs t fz, w.heap[g]? = some (.cells cs t fz) ∧ (∀ j (h : j < l.length), cs[j]? = some (.int .u8 l[j].toNat)) ∧ (fz = (0, 0) ∨ l.length ≤ fz.1)
section
variable {w w' : World} {lo g c : Nat} {l : List UInt8}
theorem adr (g k j : Nat) : (⟨g, k, none⟩ : Addr).add j = ⟨g, k + j, none⟩ := by
  unfold Addr.add
  split
  · rename_i h; subst h; rfl
  · rfl
theorem Byt.lt (h : Byt w lo g c l) : g < w.heap.size := by
  obtain ⟨cs, t, fz, hb, _⟩ := h.obj
  exact (Array.getElem?_eq_some_iff.1 hb).1
theorem Byt.kept {a b : Nat} (h : Byt w lo g c l) (hk : Kept a b w w') (hr : b ≤ a ∨ g < a ∨ b ≤ g) : Byt w' lo g c l := by
  obtain ⟨cs, t, fz, hb, hc⟩ := h.obj
  exact ⟨h.lo, h.cap, cs, t, fz, (hk.block g h.lt (by omega)).trans hb, hc⟩
theorem Byt.take (h : Byt w lo g c l) (k : Nat) : Byt w lo g c (l.take k) := by
  obtain ⟨cs, t, fz, hb, hc, hf⟩ := h.obj
  refine ⟨h.lo, Nat.le_trans (by simp; omega) h.cap, cs, t, fz, hb, fun j hj => ?_, hf.imp id (fun h => by simp; omega)⟩
  simp only [List.length_take] at hj
  rw [hc j (by omega), List.getElem_take]
theorem Byt.cell (h : Byt w lo g c l) {j : Nat} (hj : j < l.length) : w.cell? ⟨g, j, none⟩ = some (.int .u8 l[j].toNat) := by
  obtain ⟨cs, t, fz, hb, hc, _⟩ := h.obj
  rw [← hc j hj]
  simp [World.cell?, hb]
theorem Byt.froz (h : Byt w lo g c l) {j : Nat} (hj : j < l.length) : w.frozen? ⟨g, j, none⟩ = false := by
  obtain ⟨cs, t, fz, hb, _, hf⟩ := h.obj
  simp [World.frozen?, hb]
  rcases hf with rfl | hf
  · simp
  · omega
theorem Byt.store (h : Byt w lo g c l) {k : Nat} (hk : k < l.length) (y : UInt8) : Byt (w.setCell ⟨g, k, none⟩ (.int .u8 y.toNat)) lo g c (l.set k y) := by
  obtain ⟨cs, t, fz, hb, hc, hf⟩ := h.obj
  refine ⟨h.lo, by rw [List.length_set]; exact h.cap, cs.setIfInBounds k (.int .u8 y.toNat), t, fz, ?_, fun j hj => ?_, by rw [List.length_set]; exact hf⟩
  · simp [World.setCell, Array.getElem?_modify, hb]
  · rw [List.length_set] at hj
    rw [Array.getElem?_setIfInBounds]
    by_cases hjk : k = j
    · subst hjk
      have hlt : k < cs.size := (Array.getElem?_eq_some_iff.1 (hc k hk)).1
      rw [if_pos rfl, if_pos hlt, List.getElem_set_self]
    · rw [if_neg hjk, hc j hj, List.getElem_set_ne hjk]
theorem uR_flat (l : List UInt8) : uR.flat l = l.map fun x => Value.int .u8 x.toNat := by
  induction l with
  | nil => rfl
  | cons x r ih => rw [Rec.flat_cons, ih]; rfl
theorem Byt.rd (h : Byt w lo g c l) (k : Nat) (hm : l.length ≤ maxLen) : RdR uR w w.heap.size (some ⟨g, k, none⟩) (l.drop k) := by
  refine ⟨by simp; omega, fun hne => ⟨⟨g, k, none⟩, rfl, h.lt, fun j u hu => ?_⟩⟩
  rw [uR_flat, List.getElem?_map] at hu
  cases hj : (l.drop k)[j]? with
  | none => rw [hj] at hu; cases hu
  | some y =>
    rw [hj] at hu
    injection hu with hu
    rw [← hu]
    rw [List.getElem?_drop] at hj
    obtain ⟨h1, h2⟩ := List.getElem?_eq_some_iff.1 hj
    have := h.cell h1
    rw [h2] at this
    rw [adr]; exact this
theorem Byt.rd0 (h : Byt w lo g c l) (k : Nat) (hm : l.length ≤ maxLen) : RdR uR w w.heap.size (some ⟨g, 0, none⟩) (l.take k) := (h.take k).rd 0 (by simp; omega)
theorem Byt.of_row (h : w.ownsRow lo 5 1 (.slice (some ⟨g, 0, none⟩) l.length c) l.length (uR.flat l)) : Byt w lo g c l := by
  rcases h.2 with ⟨hv, _⟩ | ⟨g', cap, cur, hv, hb, hg, h1, h2, h3, h4⟩
  · injection hv with h1; cases h1
  · injection hv with e1 e2 e3
    have e4 : g = g' := by injection e1 with e1; injection e1
    subst e4
    subst e3
    refine ⟨hb, h1, cur, _, _, hg, fun j hj => ?_, .inl rfl⟩
    have := congrArg (fun (t : List Value) => t[j]?) h4
    rw [List.getElem?_take_of_lt (by omega), uR_flat, List.getElem?_map, List.getElem?_eq_getElem hj] at this
    simpa using this
end
/-- The bytes of an append's result. -/
theorem byt_app {w : World} {lo d : Nat} {D : Option Addr} {l : List UInt8} (h : w.ownsRow lo 5 1 (.slice D l.length d) l.length (uR.flat l)) {X : Option Nat} {k : Nat} (hat : rowAt D = X ∨ rowAt D = some k) (hX : X ≠ none) : ∃ g, D = some ⟨g, 0, none⟩ ∧ Byt w lo g d l := by
  rcases (OwnZ.of_row h).form with ⟨rfl, _, _⟩ | ⟨g, rfl, _⟩
  · rcases hat with h' | h'
    · exact absurd h'.symm hX
    · cases h'
  · exact ⟨g, rfl, Byt.of_row h⟩
theorem kept_conv (w : World) (t : TypeId) (s : ByteArray) : Kept 0 0 w (Lib.bytesWorld w t s) := ⟨rfl, rfl, rfl, by rw [Lib.bytesWorld_size]; omega, fun k hk _ => Lib.bytesWorld_at_old w t s k hk⟩
theorem byt_conv (w : World) (s : List UInt8) : Byt (Lib.bytesWorld w 5 (bs s)) w.heap.size w.heap.size (grownCap w (bs s).size 0 5) s := by
  refine ⟨Nat.le_refl _, by have := grownCap_ge w (bs s).size 0 5; rw [bs_size] at this ⊢; exact this, _, _, _, Lib.bytesWorld_at_new w 5 (bs s), fun j hj => ?_, .inr ?_⟩
  · unfold Lib.bytesCells
    rw [Array.getElem?_append_left (by simp [bs]; exact hj)]
    simp [bs, hj]
  · show s.length ≤ (Lib.bytesCells w 5 (bs s)).size
    unfold Lib.bytesCells
    simp [bs]
theorem own_litU (w : World) (x : UInt8) : (w.alloc (.cells #[.int .u8 x.toNat] 5)).ownsRow w.heap.size 5 1 (.slice (some ⟨w.heap.size, 0, none⟩) 1 1) 1 (uR.flat [x]) :=
  World.ownsRow_lit w #[.int .u8 x.toNat] 1 (Nat.le_refl _) (by unfold maxLen; omega) rfl
theorem rd_litU (w : World) (x : UInt8) : RdR uR (w.alloc (.cells #[.int .u8 x.toNat] 5)) (w.heap.size + 1) (some ⟨w.heap.size, 0, none⟩) [x] := by
  have := (OwnZ.rd (R := uR) (OwnZ.of_row (own_litU w x))).2
  simpa using this
/-- What the bending of a text leaves. -/
def DrawnS (n : Nat) (g : Nat) (A : Option Addr) (c : Nat) (xs : List Int) (w : World) (e : Ending) (w' : World) : Prop :=
  ∃ l : List UInt8, e = .returned (.string (bs l)) ∧ l.length ≤ n ∧ Cur w' g A c xs ∧ Kept g (g + 1) w w'
set_option maxRecDepth 100000 in
set_option maxHeartbeats 6400000 in
theorem bend_any (xs : List Int) (A : Option Addr) (c g : Nat) (s : List UInt8) (sg : ByteArray) (w : World) (h : Cur w g A c xs) (hs : s.length ≤ 1000) (hsg : sg.size = 13) :
    Calls Tryd.prog 32 #[.pointer (some ⟨g, 0, none⟩), .string (bs s), .string sg] w (DrawnS 1002 g A c xs w) := by
  have hg := h.lt
  have HS := Lib.hid uSlice
  have hcv := fun W => Lib.run_convert_string_bytes (P := Tryd.prog) W 9 22 5 (bs s) Tryd.underlying9 Tryd.underlying22 Tryd.underlying5
  have hbz : (bs s).size = s.length := bs_size s
  have kW : Kept 0 0 w (Lib.bytesWorld w 5 (bs s)) := kept_conv _ _ _
  have BW := Lib.hid (byt_conv w s)
  have C0 := Lib.hid (h.kept kW (.inl (Nat.le_refl _)))
  have K0 : Hid (Kept g (g + 1) w (Lib.bytesWorld w 5 (bs s))) := kW.wide (.inl (Nat.le_refl _))
  obtain ⟨W, hW⟩ : ∃ W, W = Lib.bytesWorld w 5 (bs s) := ⟨_, rfl⟩
  obtain ⟨cp, hcp⟩ : ∃ cp, cp = grownCap w (bs s).size 0 5 := ⟨_, rfl⟩
  have hc1 := hcv w
  rw [← hW, ← hcp, hbz] at hc1
  rw [← hW] at C0 K0
  rw [← hW, ← hcp] at BW
  clear h kW hcv hW hcp
  have HSG := Lib.hid hsg
  clear hsg
  go_enter Tryd.func32, Tryd.ntmps32
  go_wp2_with fail
  with_reducible refine (below_any _ _ _ _ _ _ C0.out (by omega) (by omega)).mono ?_
  rintro e w1 ⟨n0, rfl, ⟨hn0, hn1⟩, hc, hk⟩
  obtain ⟨N, rfl⟩ : ∃ N : Nat, n0 = N := ⟨n0.toNat, by omega⟩
  have B1 := Lib.hid (BW.out.kept hk (by have := BW.out.lo; omega))
  have C1 := Lib.hid hc
  have K1 := Lib.hid (K0.out.trans hk)
  clear hc hk BW C0 K0 hc1
  go_wp2_with fail
  go_loopw [7, 8] (fun v i wr => ∃ (m b d : Nat) (l : List UInt8), i = .int .i64 m ∧ v = .slice (some ⟨b, 0, none⟩) l.length d ∧ l.length + m ≤ 1002 ∧ Hid (Byt wr w.heap.size b d l) ∧ Hid (Cur wr g A c xs) ∧ Hid (Kept g (g + 1) w wr)) (fun _ i _ => (intOf i).toNat)
  case atStart => exact ⟨N, _, _, s, by rfl, by rfl, by omega, B1.out, C1.out, K1.out⟩
  case round =>
    obtain ⟨m, b, d, l, rfl, rfl, hlm, B2, HC, HK⟩ := hrel
    have zk := HK.out.size
    have hll : l.length ≤ maxLen := by unfold maxLen; omega
    by_cases hm : 0 < m ∧ 0 < l.length
    case neg =>
      have cv := run_convert_bytes_back wr 22 9 5 ⟨b, 0, none⟩ d l Tryd.underlying22 Tryd.underlying5 Tryd.underlying9 (fun j hj => by have := B2.out.cell hj; rw [adr, Nat.zero_add]; exact this)
      by_cases hm0 : 0 < m
      · have i1 : (0 : Int) < (m : Int) := by omega
        have i2 : ¬ (0 : Int) < (l.length : Int) := by omega
        clear hm
        go_wp2_with fail
        go_ret
        exact ⟨l, rfl, by omega, HC.out, HK.out⟩
      · have i1 : ¬ (0 : Int) < (m : Int) := by omega
        clear hm
        go_wp2_with fail
        go_ret
        exact ⟨l, rfl, by omega, HC.out, HK.out⟩
    have i1 : (0 : Int) < (m : Int) := by omega
    have i2 : (0 : Int) < (l.length : Int) := by omega
    have HM := Lib.hid hm
    go_wp2_with fail
    with_reducible refine (belowN_any _ _ _ _ _ _ HC.out (by omega) (by omega)).mono ?_
    rintro e w2 ⟨k0, rfl, ⟨hk0, hk1⟩, hc, hk⟩
    obtain ⟨k, rfl⟩ : ∃ k : Nat, k0 = k := ⟨k0.toNat, by omega⟩
    have hkl : k < l.length := by omega
    have B3 := Lib.hid (B2.out.kept hk (by have := B2.out.lo; omega))
    have C3 := Lib.hid hc
    have K3 := Lib.hid (HK.out.trans hk)
    clear hc hk HC HK B2 zk
    go_wp2_with fail
    with_reducible refine (below_any _ _ _ _ _ _ C3.out (by omega) (by omega)).mono ?_
    rintro e w3 ⟨r, rfl, ⟨hr0, hr1⟩, hc, hk⟩
    have B4 := Lib.hid (B3.out.kept hk (by have := B3.out.lo; omega))
    have C4 := Lib.hid hc
    have K4 := Lib.hid (K3.out.trans hk)
    have z4 := K4.out.size
    have bl := B4.out.lo
    have bt := B4.out.lt
    have bc := B4.out.cap
    clear hc hk C3 K3 B3 hm
    rcases (by omega : r = 0 ∨ r = 1 ∨ r = 2 ∨ r = 3) with rfl | rfl | rfl | rfl
    · go_wp2_with fail
      with_reducible refine (below_any _ _ _ _ _ _ C4.out (by have := HSG.out; omega) (by have := HSG.out; omega)).mono ?_
      rintro e w5 ⟨q0, rfl, ⟨hq0, hq1⟩, hc, hk⟩
      obtain ⟨q, rfl⟩ : ∃ q : Nat, q0 = q := ⟨q0.toNat, by omega⟩
      have hqs : q < sg.size := by omega
      have B5 := Lib.hid (B4.out.kept hk (by omega))
      have C5 := Lib.hid hc
      have K5 := Lib.hid (K4.out.trans hk)
      have cc := B5.out.cell hkl
      have ff := B5.out.froz hkl
      clear hc hk C4 K4 B4
      go_wp2_with fail
      have kU : Kept b (b + 1) w5 (w5.setCell ⟨b, k, none⟩ (.int .u8 (sg[q]).toNat)) := Kept.setCell (Kept.refl b (b + 1) w5) (p := ⟨b, k, none⟩) (.inr ⟨Nat.le_refl _, Nat.lt_succ_self _⟩) _
      go_roundw
      case rel => exact ⟨m - 1, b, d, l.set k sg[q], (by have := HM.out.1; exact congrArg (Value.int IntKind.i64) (by omega)), by rw [List.length_set], (by rw [List.length_set]; omega), B5.out.store hkl sg[q], C5.out.kept kU (.inr (by omega)), K5.out.trans2 kU (.inr bl)⟩
      case measure => have := HM.out.1; simp [intOf]; omega
    · go_wp2_with fail
      go_roundw
      case rel => exact ⟨m - 1, b, d, l.take k, (by have := HM.out.1; exact congrArg (Value.int IntKind.i64) (by omega)), by rw [List.length_take, Nat.min_eq_left (by omega)], (by rw [List.length_take]; omega), B4.out.take k, C4.out, K4.out⟩
      case measure => have := HM.out.1; simp [intOf]; omega
    · obtain ⟨la, hla⟩ : ∃ la, la = l.take k := ⟨_, rfl⟩
      have tk : Hid (la.length = k) := by show _ = _; rw [hla]; simp; omega
      have RA := Lib.hid (B4.out.rd0 k hll)
      rw [← hla] at RA
      obtain ⟨lb, hlb⟩ : ∃ lb, lb = l.drop (k + 1) := ⟨_, rfl⟩
      have dk : Hid (lb.length = l.length - (k + 1)) := by show _ = _; rw [hlb]; simp
      have RB := Lib.hid (B4.out.rd (k + 1) hll)
      rw [← hlb] at RB
      have tk' : la.length ≤ 1002 := by have := tk.out; omega
      have dk' : lb.length ≤ 1002 := by have := dk.out; omega
      clear hla hlb
      have p1 : IntKind.i64.wrap ((k : Int) + 1) = (k : Int) + 1 := IntWalk.i64_in _ (by omega)
      have p2 : 0 ≤ (k : Int) + 1 := by omega
      have p3 : ((k : Int) + 1).toNat = k + 1 := by omega
      have p4 : (k : Int) + 1 ≤ (l.length : Int) := by omega
      have p5 : (l.length : Int) ≤ (d : Int) := by omega
      have p6 : (k : Int) ≤ (d : Int) := by omega
      have p7 : (k : Int) ≤ (l.length : Int) := by omega
      go_upto_region 12 with fail
      by_cases hd : d = k + 1
      · have eb : lb = [] := List.eq_nil_of_length_eq_zero (by have := dk.out; omega)
        subst eb
        subst hd
        have p8 : (k : Int) ≤ (k : Int) + 1 := by omega
        have p9 : k ≤ k + 1 := by omega
        go_region_law (first
          | (refine step_app (R := uR) rfl (.tmp 47) (.tmp 50) rfl HS.out w3.heap.size (some ⟨w3.heap.size, 0, none⟩) 0 [] rfl (own_emptyZ (Blk.new w3 5 #[]).drew (Nat.le_refl _)) w3.heap.size (some ⟨b, 0, none⟩) (k + 1) la (by rw [tk.out]; rfl) (by exact RA.out.kept (Nat.le_refl _) (Kept.alloc0 w3 (.cells #[] 5)).drew (.inl (Nat.le_refl _))) (by simp [maxLen]; omega) (by simp; omega) (by simp) ?_; intro D5 d5 w5 hown hgrow hat; have c5 : Kept w3.heap.size (w3.heap.size + 1) (w3.alloc (.cells #[] 5)).drew w5 := kept_of_row hgrow; have k5 : Kept 0 0 w3 w5 := (Kept.alloc0 w3 (.cells #[] 5)).drew.trans2 c5 (.inr (Nat.le_refl _)); have O5 : w5.ownsRow w3.heap.size 5 1 (.slice D5 la.length d5) la.length (uR.flat la) := hown; have z5 := k5.size; have hD5 : rowAt D5 ≠ none := (by rcases hat with h | h <;> rw [h] <;> simp [rowAt]); have N5 := (fun g hg => (own_row_lo hown g hg).1); clear hown hgrow hat)
          | (have _t := O5; refine step_app (R := uR) rfl (.tmp 51) (.tmp 55) rfl HS.out w3.heap.size D5 d5 la (by first | rfl | (rw [tk.out]; rfl)) O5 w3.heap.size (some ⟨b, 0, none⟩) (0) [] (by first | rfl | (rw [dk.out]; rfl)) (RdR.nil _ _ _) (by unfold maxLen; simp; omega) (by first | omega | (simp; omega)) z5 ?_; intro D6 d6 w6 hown hgrow hat; have k6 : Kept 0 0 w3 w6 := k5.app hgrow N5; have O6 := hown; have hD6 : ∃ g, D6 = some ⟨g, 0, none⟩ ∧ Byt w6 w3.heap.size g d6 (la ++ []) := byt_app hown hat hD5; clear hown hgrow hat))
        go_wp2_with fail
        go_roundw
        case rel =>
          obtain ⟨g6, e6, hB6⟩ := hD6
          exact ⟨m - 1, g6, d6, _, (by have := HM.out.1; exact congrArg (Value.int IntKind.i64) (by omega)), (by rw [e6]; simp), (by have := tk.out; have := dk.out; simp; omega), ⟨Nat.le_trans z4 hB6.lo, hB6.cap, hB6.obj⟩, C4.out.kept k6 (.inl (Nat.le_refl _)), K4.out.trans2 k6 (.inl (Nat.zero_le _))⟩
        case measure => have := HM.out.1; simp [intOf]; omega
      · have hd' : ¬ (d : Int) = (k : Int) + 1 := by omega
        have hd2 : ¬ d = k + 1 := hd
        go_region_law (first
          | (refine step_app (R := uR) rfl (.tmp 47) (.tmp 50) rfl HS.out w3.heap.size (some ⟨w3.heap.size, 0, none⟩) 0 [] rfl (own_emptyZ (Blk.new w3 5 #[]).drew (Nat.le_refl _)) w3.heap.size (some ⟨b, 0, none⟩) d la (by rw [tk.out]; rfl) (by exact RA.out.kept (Nat.le_refl _) (Kept.alloc0 w3 (.cells #[] 5)).drew (.inl (Nat.le_refl _))) (by simp [maxLen]; omega) (by simp; omega) (by simp) ?_; intro D5 d5 w5 hown hgrow hat; have c5 : Kept w3.heap.size (w3.heap.size + 1) (w3.alloc (.cells #[] 5)).drew w5 := kept_of_row hgrow; have k5 : Kept 0 0 w3 w5 := (Kept.alloc0 w3 (.cells #[] 5)).drew.trans2 c5 (.inr (Nat.le_refl _)); have O5 : w5.ownsRow w3.heap.size 5 1 (.slice D5 la.length d5) la.length (uR.flat la) := hown; have z5 := k5.size; have hD5 : rowAt D5 ≠ none := (by rcases hat with h | h <;> rw [h] <;> simp [rowAt]); have N5 := (fun g hg => (own_row_lo hown g hg).1); clear hown hgrow hat)
          | (have _t := O5; refine step_app (R := uR) rfl (.tmp 51) (.tmp 55) rfl HS.out w3.heap.size D5 d5 la (by first | rfl | (rw [tk.out]; rfl)) O5 w3.heap.size (some ⟨b, k + 1, none⟩) (d - (k + 1)) lb (by first | rfl | (rw [dk.out]; rfl)) (by exact RB.out.kept (Nat.le_refl _) k5 (.inl (Nat.le_refl _))) (by unfold maxLen; simp; omega) (by first | omega | (simp; omega)) z5 ?_; intro D6 d6 w6 hown hgrow hat; have k6 : Kept 0 0 w3 w6 := k5.app hgrow N5; have O6 := hown; have hD6 : ∃ g, D6 = some ⟨g, 0, none⟩ ∧ Byt w6 w3.heap.size g d6 (la ++ lb) := byt_app hown hat hD5; clear hown hgrow hat))
        go_wp2_with fail
        go_roundw
        case rel =>
          obtain ⟨g6, e6, hB6⟩ := hD6
          exact ⟨m - 1, g6, d6, _, (by have := HM.out.1; exact congrArg (Value.int IntKind.i64) (by omega)), (by rw [e6]; simp), (by have := tk.out; have := dk.out; simp; omega), ⟨Nat.le_trans z4 hB6.lo, hB6.cap, hB6.obj⟩, C4.out.kept k6 (.inl (Nat.le_refl _)), K4.out.trans2 k6 (.inl (Nat.zero_le _))⟩
        case measure => have := HM.out.1; simp [intOf]; omega
    · obtain ⟨la, hla⟩ : ∃ la, la = l.take k := ⟨_, rfl⟩
      have tk : Hid (la.length = k) := by show _ = _; rw [hla]; simp; omega
      have RA := Lib.hid (B4.out.rd0 k hll)
      rw [← hla] at RA
      obtain ⟨lb, hlb⟩ : ∃ lb, lb = l.drop k := ⟨_, rfl⟩
      have dk : Hid (lb.length = l.length - k) := by show _ = _; rw [hlb]; simp
      have HLB : Hid (lb = l.drop k) := hlb
      have tk' : la.length ≤ 1002 := by have := tk.out; omega
      have dk' : lb.length ≤ 1002 := by have := dk.out; omega
      clear hla hlb
      have gw3 : g < w3.heap.size := by omega
      have p5 : (l.length : Int) ≤ (d : Int) := by omega
      have p6 : (k : Int) ≤ (d : Int) := by omega
      have p7 : (k : Int) ≤ (l.length : Int) := by omega
      have p8 : ¬ (d : Int) = (k : Int) := by omega
      have p9 : ¬ d = k := by omega
      by_cases hk0' : k = 0
      · subst hk0'
        have el : la = [] := List.eq_nil_of_length_eq_zero tk.out
        subst el
        go_upto_region 14 with fail
        go_region_law (first
          | (refine step_app (R := uR) rfl (.tmp 59) (.tmp 62) rfl HS.out w3.heap.size (some ⟨w3.heap.size, 0, none⟩) 0 [] rfl (own_emptyZ (Blk.new w3 5 #[]).drew (Nat.le_refl _)) w3.heap.size (some ⟨b, 0, none⟩) d ([] : List UInt8) rfl (RdR.nil _ _ _) (by first | omega | (simp [maxLen]; done) | (simp [maxLen]; omega)) (by first | omega | (simp; done) | (simp; omega)) (by simp) ?_; intro D5 d5 w5 hown hgrow hat; have c5 : Kept w3.heap.size (w3.heap.size + 1) (w3.alloc (.cells #[] 5)).drew w5 := kept_of_row hgrow; have k5 : Kept 0 0 w3 w5 := (Kept.alloc0 w3 (.cells #[] 5)).drew.trans2 c5 (.inr (Nat.le_refl _)); have O5 : w5.ownsRow w3.heap.size 5 1 (.slice D5 ([] : List UInt8).length d5) ([] : List UInt8).length (uR.flat ([] : List UInt8)) := hown; have z5 := k5.size; have hD5 : rowAt D5 ≠ none := (by rcases hat with h | h <;> rw [h] <;> simp [rowAt]); have N5 := (fun g hg => (own_row_lo hown g hg).1); have C5 := C4.out.kept k5 (.inl (Nat.le_refl _)); clear hown hgrow hat)
          | ((try go_simp); go_at_call 40; (with_reducible refine (below_any _ _ _ _ _ _ C5 (by have := HSG.out; omega) (by have := HSG.out; omega)).mono ?_); rintro e w6 ⟨q0, rfl, ⟨hq0, hq1⟩, hc, hk⟩; obtain ⟨q, rfl⟩ : ∃ q : Nat, q0 = q := ⟨q0.toNat, by omega⟩; have hqs : q < sg.size := (by omega); have c6 : Kept g (g + 1) w3 w6 := k5.wide (.inl (Nat.le_refl _)) |>.trans hk; have O6 : w6.ownsRow w3.heap.size 5 1 (.slice D5 ([] : List UInt8).length d5) ([] : List UInt8).length (uR.flat ([] : List UInt8)) := row_other O5 (fun h => by rw [rowAt_eq] at h; have := N5 _ h; omega) hk; have z6 := c6.size; have C6 := hc; have HQ := Lib.hid hqs; clear hc hk)
          | (have _t := O6; refine step_app (R := uR) rfl (.tmp 63) (.tmp 70) rfl HS.out w3.heap.size D5 d5 ([] : List UInt8) rfl (row_kept O6 (Kept.alloc0 w6 (.cells #[.int .u8 (sg[q]).toNat] 5))) (w6.heap.size + 1) (some ⟨w6.heap.size, 0, none⟩) 1 [sg[q]] rfl (rd_litU w6 sg[q]) (by first | omega | (simp [maxLen]; done) | (simp [maxLen]; omega)) (by first | omega | (simp; done) | (simp; omega)) (by first | omega | (simp; done) | (simp; omega)) ?_; intro D7 d7 w7 hown hgrow hat; have c7 : Kept g (g + 1) w3 w7 := (c6.alloc (.cells #[.int .u8 (sg[q]).toNat] 5)).trans2 (Kept.of_grown (lo := w3.heap.size) (hi := w7.heap.size) hgrow (fun k hk => ⟨N5 k hk, Nat.lt_of_lt_of_le (by have := (own_row_lo O6 k hk).2; simp; omega) hgrow.size⟩)) (.inr (Nat.le_refl _)); have O7 : w7.ownsRow w3.heap.size 5 1 (.slice D7 (([] : List UInt8) ++ [sg[q]]).length d7) (([] : List UInt8) ++ [sg[q]]).length (uR.flat (([] : List UInt8) ++ [sg[q]])) := hown; have z7 := c7.size; have hD7 : rowAt D7 ≠ none := (by rcases hat with h | h <;> rw [h] <;> first | exact hD5 | simp); have N7 := (fun g hg => (own_row_lo hown g hg).1); have C7 := (C6.kept (Kept.alloc0 w6 (.cells #[.int .u8 (sg[q]).toNat] 5)) (.inl (Nat.le_refl _))).kept (Kept.of_grown (lo := w3.heap.size) (hi := w7.heap.size) hgrow (fun k hk => ⟨N5 k hk, Nat.lt_of_lt_of_le (by have := (own_row_lo O6 k hk).2; simp; omega) hgrow.size⟩)) (.inr (by omega)); clear hown hgrow hat)
          | (have _t := O7; refine step_app (R := uR) rfl (.tmp 71) (.tmp 74) rfl HS.out w3.heap.size D7 d7 (([] : List UInt8) ++ [sg[q]]) (by first | rfl | (rw [List.length_append]; rfl)) O7 w7.heap.size (some ⟨b, 0, none⟩) d lb (by first | rfl | (rw [dk.out]; rfl)) (by rw [HLB.out]; exact (B4.out.kept c7 (by omega)).rd 0 hll) (by unfold maxLen; first | omega | (simp; omega)) (by first | omega | (simp; omega)) (by first | exact z7 | exact Nat.le_refl _) ?_; intro D8 d8 w8 hown hgrow hat; have k8 : Kept g (g + 1) w3 w8 := c7.trans2 (Kept.of_grown (lo := w3.heap.size) (hi := w8.heap.size) hgrow (fun k hk => ⟨N7 k hk, Nat.lt_of_lt_of_le (own_row_lo O7 k hk).2 hgrow.size⟩)) (.inr (Nat.le_refl _)); have hD8 : ∃ g, D8 = some ⟨g, 0, none⟩ ∧ Byt w8 w3.heap.size g d8 (([] : List UInt8) ++ [sg[q]] ++ lb) := byt_app hown hat hD7; have C8 := C7.kept (Kept.of_grown (lo := w3.heap.size) (hi := w8.heap.size) hgrow (fun k hk => ⟨N7 k hk, Nat.lt_of_lt_of_le (own_row_lo O7 k hk).2 hgrow.size⟩)) (.inr (by omega)); clear hown hgrow hat))
        go_wp2_with fail
        go_roundw
        case rel =>
          obtain ⟨g6, e6, hB6⟩ := hD8
          exact ⟨m - 1, g6, d8, _, (by have := HM.out.1; exact congrArg (Value.int IntKind.i64) (by omega)), (by rw [e6]; simp), (by have := tk.out; have := dk.out; simp; omega), ⟨Nat.le_trans z4 hB6.lo, hB6.cap, hB6.obj⟩, C8, K4.out.trans k8⟩
        case measure => have := HM.out.1; simp [intOf]; omega
      · go_upto_region 14 with fail
        go_region_law (first
          | (refine step_app (R := uR) rfl (.tmp 59) (.tmp 62) rfl HS.out w3.heap.size (some ⟨w3.heap.size, 0, none⟩) 0 [] rfl (own_emptyZ (Blk.new w3 5 #[]).drew (Nat.le_refl _)) w3.heap.size (some ⟨b, 0, none⟩) d la (by rw [tk.out]; rfl) (by exact RA.out.kept (Nat.le_refl _) (Kept.alloc0 w3 (.cells #[] 5)).drew (.inl (Nat.le_refl _))) (by simp [maxLen]; omega) (by simp; omega) (by simp) ?_; intro D5 d5 w5 hown hgrow hat; have c5 : Kept w3.heap.size (w3.heap.size + 1) (w3.alloc (.cells #[] 5)).drew w5 := kept_of_row hgrow; have k5 : Kept 0 0 w3 w5 := (Kept.alloc0 w3 (.cells #[] 5)).drew.trans2 c5 (.inr (Nat.le_refl _)); have O5 : w5.ownsRow w3.heap.size 5 1 (.slice D5 la.length d5) la.length (uR.flat la) := hown; have z5 := k5.size; have hD5 : rowAt D5 ≠ none := (by rcases hat with h | h <;> rw [h] <;> simp [rowAt]); have N5 := (fun g hg => (own_row_lo hown g hg).1); have C5 := C4.out.kept k5 (.inl (Nat.le_refl _)); clear hown hgrow hat)
          | ((try go_simp); go_at_call 40; (with_reducible refine (below_any _ _ _ _ _ _ C5 (by have := HSG.out; omega) (by have := HSG.out; omega)).mono ?_); rintro e w6 ⟨q0, rfl, ⟨hq0, hq1⟩, hc, hk⟩; obtain ⟨q, rfl⟩ : ∃ q : Nat, q0 = q := ⟨q0.toNat, by omega⟩; have hqs : q < sg.size := (by omega); have c6 : Kept g (g + 1) w3 w6 := k5.wide (.inl (Nat.le_refl _)) |>.trans hk; have O6 : w6.ownsRow w3.heap.size 5 1 (.slice D5 la.length d5) la.length (uR.flat la) := row_other O5 (fun h => by rw [rowAt_eq] at h; have := N5 _ h; omega) hk; have z6 := c6.size; have C6 := hc; have HQ := Lib.hid hqs; clear hc hk)
          | (have _t := O6; refine step_app (R := uR) rfl (.tmp 63) (.tmp 70) rfl HS.out w3.heap.size D5 d5 la rfl (row_kept O6 (Kept.alloc0 w6 (.cells #[.int .u8 (sg[q]).toNat] 5))) (w6.heap.size + 1) (some ⟨w6.heap.size, 0, none⟩) 1 [sg[q]] rfl (rd_litU w6 sg[q]) (by simp [maxLen]; omega) (by simp; omega) (by simp; omega) ?_; intro D7 d7 w7 hown hgrow hat; have c7 : Kept g (g + 1) w3 w7 := (c6.alloc (.cells #[.int .u8 (sg[q]).toNat] 5)).trans2 (Kept.of_grown (lo := w3.heap.size) (hi := w7.heap.size) hgrow (fun k hk => ⟨N5 k hk, Nat.lt_of_lt_of_le (by have := (own_row_lo O6 k hk).2; simp; omega) hgrow.size⟩)) (.inr (Nat.le_refl _)); have O7 : w7.ownsRow w3.heap.size 5 1 (.slice D7 (la ++ [sg[q]]).length d7) (la ++ [sg[q]]).length (uR.flat (la ++ [sg[q]])) := hown; have z7 := c7.size; have hD7 : rowAt D7 ≠ none := (by rcases hat with h | h <;> rw [h] <;> first | exact hD5 | simp); have N7 := (fun g hg => (own_row_lo hown g hg).1); have C7 := (C6.kept (Kept.alloc0 w6 (.cells #[.int .u8 (sg[q]).toNat] 5)) (.inl (Nat.le_refl _))).kept (Kept.of_grown (lo := w3.heap.size) (hi := w7.heap.size) hgrow (fun k hk => ⟨N5 k hk, Nat.lt_of_lt_of_le (by have := (own_row_lo O6 k hk).2; simp; omega) hgrow.size⟩)) (.inr (by omega)); clear hown hgrow hat)
          | (have _t := O7; refine step_app (R := uR) rfl (.tmp 71) (.tmp 74) rfl HS.out w3.heap.size D7 d7 (la ++ [sg[q]]) (by first | rfl | (rw [List.length_append]; rfl)) O7 w7.heap.size (some ⟨b, k, none⟩) (d - k) lb (by first | rfl | (rw [dk.out]; rfl)) (by rw [HLB.out]; exact (B4.out.kept c7 (by omega)).rd k hll) (by unfold maxLen; simp; omega) (by first | omega | (simp; omega)) (by first | exact z7 | exact Nat.le_refl _) ?_; intro D8 d8 w8 hown hgrow hat; have k8 : Kept g (g + 1) w3 w8 := c7.trans2 (Kept.of_grown (lo := w3.heap.size) (hi := w8.heap.size) hgrow (fun k hk => ⟨N7 k hk, Nat.lt_of_lt_of_le (own_row_lo O7 k hk).2 hgrow.size⟩)) (.inr (Nat.le_refl _)); have hD8 : ∃ g, D8 = some ⟨g, 0, none⟩ ∧ Byt w8 w3.heap.size g d8 (la ++ [sg[q]] ++ lb) := byt_app hown hat hD7; have C8 := C7.kept (Kept.of_grown (lo := w3.heap.size) (hi := w8.heap.size) hgrow (fun k hk => ⟨N7 k hk, Nat.lt_of_lt_of_le (own_row_lo O7 k hk).2 hgrow.size⟩)) (.inr (by omega)); clear hown hgrow hat))
        go_wp2_with fail
        go_roundw
        case rel =>
          obtain ⟨g6, e6, hB6⟩ := hD8
          exact ⟨m - 1, g6, d8, _, (by have := HM.out.1; exact congrArg (Value.int IntKind.i64) (by omega)), (by rw [e6]; simp), (by have := tk.out; have := dk.out; simp; omega), ⟨Nat.le_trans z4 hB6.lo, hB6.cap, hB6.obj⟩, C8, K4.out.trans k8⟩
        case measure => have := HM.out.1; simp [intOf]; omega
end Go.Proofs.YtoccbmmjcbjacaaDoor
