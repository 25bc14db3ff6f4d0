/- The reference's ReadProg: how a program is read; condition: the text has at most 4294967280 bytes. -/
import Derived.Test.YtoccbmmjcbjacaaDoorGc
namespace Go.Proofs.YtoccbmmjcbjacaaDoor
open Go.RowKit Go.Sort

/-- What the text reads as: the program; nothing where it is refused. -/
def resP (s : List UInt8) : List Ins := (readP s).getD []
/-- No separator lies in a text. -/
def NoSep (l : List UInt8) : Prop := ∀ j : Nat, ¬ (l[j]? = some 59 ∧ l[j + 1]? = some 32)
theorem NoSep.tail {c : UInt8} {l : List UInt8} (h : NoSep (c :: l)) : NoSep l := fun j hj => h (j + 1) (by simpa using hj)
theorem split2_one : ∀ (l : List UInt8), NoSep l → split2 l = [l]
  | [], _ => rfl
  | [c], _ => rfl
  | c :: d :: r, h => by
    have hh : ¬ (c = 59 ∧ d = 32) := fun e => h 0 (by simp [e.1, e.2])
    rw [split2_miss hh, split2_one (d :: r) h.tail]; rfl
theorem split2_at : ∀ (p r : List UInt8), NoSep (p ++ [59]) → split2 (p ++ 59 :: 32 :: r) = p :: split2 r
  | [], r, _ => split2_hit r
  | [c], r, h => by
    show split2 (c :: 59 :: 32 :: r) = _
    rw [split2_miss (by intro e; have := e.2; revert this; decide), split2_hit]; rfl
  | c :: d :: t, r, h => by
    have hh : ¬ (c = 59 ∧ d = 32) := fun e => h 0 (by simp [e.1, e.2])
    have ih := split2_at (d :: t) r h.tail
    rw [List.cons_append] at ih
    rw [List.cons_append, List.cons_append, split2_miss hh, ih]; rfl
/-- What is parted off behind some rounds. -/
structure SpS (s : List UInt8) (ws : List (List UInt8)) (f i : Nat) : Prop where
  hi : i ≤ s.length
  hf : f ≤ i + 1
  gap : f = i + 1 → s[i]? = some 32
  eq : split2 s = ws ++ split2 (s.drop f)
  no : ∀ j, f ≤ j → j < i → ¬ (s[j]? = some 59 ∧ s[j + 1]? = some 32)
theorem SpS.start (s : List UInt8) : SpS s [] 0 0 := ⟨Nat.zero_le _, by omega, fun h => by omega, rfl, fun j _ h => by omega⟩
theorem SpS.miss {s : List UInt8} {ws : List (List UInt8)} {f i : Nat} (h : SpS s ws f i) (hi : i < s.length) (hb : ¬ (s[i]? = some 59 ∧ s[i + 1]? = some 32)) : SpS s ws f (i + 1) :=
  ⟨hi, by have := h.hf; omega, fun e => by have := h.hf; omega, h.eq, fun j h1 h2 => by
    rcases Nat.lt_or_ge j i with h' | h'
    · exact h.no j h1 h'
    · have : j = i := by omega
      subst this; exact hb⟩
theorem partS_at (s : List UInt8) (f i j : Nat) (hi : i ≤ s.length) : ((s.take i).drop f)[j]? = if f + j < i then s[f + j]? else none := by
  rw [List.getElem?_drop]
  by_cases h : f + j < i
  · rw [if_pos h, List.getElem?_take_of_lt h]
  · rw [if_neg h, List.getElem?_eq_none (by simp; omega)]
theorem SpS.hit {s : List UInt8} {ws : List (List UInt8)} {f i : Nat} (h : SpS s ws f i) (h1 : s[i]? = some 59) (h2 : s[i + 1]? = some 32) : f ≤ i ∧ SpS s (ws ++ [(s.take i).drop f]) (i + 2) (i + 1) ∧ split2 s = ws ++ (s.take i).drop f :: split2 (s.drop (i + 2)) := by
  have hfi : f ≤ i := by
    rcases Nat.lt_or_ge i f with h' | h'
    · have := h.gap (by have := h.hf; omega)
      rw [h1] at this; cases this
    · exact h'
  have hl : i + 1 < s.length := (List.getElem?_eq_some_iff.1 h2).1
  have e1 : s.drop i = 59 :: 32 :: s.drop (i + 2) := by
    rw [List.drop_eq_getElem_cons (by omega), List.drop_eq_getElem_cons hl]
    have a := (List.getElem?_eq_some_iff.1 h1).2
    have b := (List.getElem?_eq_some_iff.1 h2).2
    rw [a, b]
  have e2 : s.drop f = (s.take i).drop f ++ 59 :: 32 :: s.drop (i + 2) := by
    rw [← e1]
    conv => lhs; rw [← List.take_append_drop i s]
    rw [List.drop_append_of_le_length (by simp; omega)]
  have hn : NoSep ((s.take i).drop f ++ [59]) := by
    intro j hj
    have hlen : ((s.take i).drop f).length = i - f := by simp; omega
    rcases Nat.lt_or_ge (j + 1) (i - f) with h' | h'
    · rw [List.getElem?_append_left (by omega), List.getElem?_append_left (by omega), partS_at _ _ _ _ h.hi, partS_at _ _ _ _ h.hi, if_pos (by omega), if_pos (by omega)] at hj
      exact h.no (f + j) (by omega) (by omega) hj
    · have hj2 := hj.2
      rcases Nat.lt_or_ge (i - f) (j + 1) with h'' | h''
      · rw [List.getElem?_eq_none (by rw [List.length_append, hlen]; simp; omega)] at hj2; cases hj2
      · rw [List.getElem?_append_right (by omega), hlen, show j + 1 - (i - f) = 0 by omega] at hj2
        simp at hj2
  have e3 : split2 s = ws ++ (s.take i).drop f :: split2 (s.drop (i + 2)) := by rw [h.eq, e2, split2_at _ _ hn]
  exact ⟨hfi, ⟨by omega, by omega, fun _ => h2, by rw [e3]; simp, fun j a b => by omega⟩, e3⟩
theorem SpS.done {s : List UInt8} {ws : List (List UInt8)} {f i : Nat} (h : SpS s ws f i) (hi : i = s.length) : f ≤ i ∧ split2 s = ws ++ [(s.take i).drop f] := by
  have hfi : f ≤ i := by
    rcases Nat.lt_or_ge i f with h' | h'
    · have := h.gap (by have := h.hf; omega)
      rw [List.getElem?_eq_none (by omega)] at this; cases this
    · exact h'
  refine ⟨hfi, ?_⟩
  have hn : NoSep (s.drop f) := by
    intro j hj
    rw [List.getElem?_drop, List.getElem?_drop] at hj
    rcases Nat.lt_or_ge (f + j) i with h' | h'
    · exact h.no (f + j) (by omega) h' (by rw [show f + j + 1 = f + (j + 1) by omega]; exact hj)
    · rw [List.getElem?_eq_none (by omega)] at hj; cases hj.1
  rw [h.eq, split2_one _ hn, hi, List.take_length]
theorem readL_app (ws vs : List (List UInt8)) : readL (ws ++ vs) = match readL ws with | none => none | some a => match readL vs with | none => none | some b => some (a ++ b) := by
  induction ws with
  | nil => simp only [List.nil_append, readL]; cases readL vs <;> rfl
  | cons w r ih =>
    simp only [List.cons_append, readL, ih]
    cases readI w with
    | none => rfl
    | some i =>
      cases readL r with
      | none => rfl
      | some a =>
        simp only
        cases readL vs <;> rfl
theorem readL_len : ∀ {ws : List (List UInt8)} {l : List Ins}, readL ws = some l → l.length = ws.length
  | [], l, h => by simp only [readL] at h; injection h with h; subst h; rfl
  | w :: r, l, h => by
    simp only [readL] at h
    cases hi : readI w with
    | none => rw [hi] at h; cases h
    | some i =>
      rw [hi] at h
      cases hr : readL r with
      | none => rw [hr] at h; cases h
      | some t =>
        rw [hr] at h
        simp only at h
        injection h with h
        subst h
        simp [readL_len hr]
/-- A part that is refused, or one too many: the text is refused. -/
theorem readP_refuse {s : List UInt8} (hs : s ≠ []) {ws vs : List (List UInt8)} {p : List UInt8} {zs : List Ins} (e : split2 s = ws ++ p :: vs) (hz : readL ws = some zs) (h : readI p = none ∨ zs.length = 12) : readP s = none := by
  unfold readP
  rw [if_neg hs, e, readL_app, hz]
  simp only [readL]
  cases hp : readI p with
  | none => rfl
  | some i =>
    rcases h with h | h
    · rw [hp] at h; cases h
    · simp only
      cases readL vs with
      | none => rfl
      | some t =>
        simp only
        rw [if_neg (by simp; omega)]
theorem readP_all {s : List UInt8} (hs : s ≠ []) {zs : List Ins} (hz : readL (split2 s) = some zs) (hl : zs.length ≤ 12) : readP s = some zs := by
  unfold readP
  rw [if_neg hs, hz]
  exact if_pos hl
theorem own_litI3 (w : World) (x : Ins) : (w.alloc (.cells #[.int .i64 x.op, .int .i64 x.a, .int .i64 x.b] 43)).ownsRow w.heap.size 43 3 (.slice (some ⟨w.heap.size, 0, none⟩) 1 1) 1 (nsR.flat [x]) :=
  World.ownsRow_lit w #[.int .i64 x.op, .int .i64 x.a, .int .i64 x.b] 1 (Nat.le_refl _) (by unfold maxLen; omega) rfl
theorem rd_litI3 (w : World) (x : Ins) : RdR nsR (w.alloc (.cells #[.int .i64 x.op, .int .i64 x.a, .int .i64 x.b] 43)) (w.heap.size + 1) (some ⟨w.heap.size, 0, none⟩) [x] := by
  have := (OwnZ.rd (R := nsR) (OwnZ.of_row (own_litI3 w x))).2
  simpa using this
set_option maxRecDepth 100000 in
set_option maxHeartbeats 3200000 in
theorem specReadP (s : List UInt8) (hs : s.length ≤ 4294967280) (w : World) :
    Calls Tryd.prog 18 #[.string (bs s)] w fun e w' => ∃ D d, e = .returned (.tuple #[.slice D (resP s).length d, .bool (readP s).isSome]) ∧ OwnZ w' w.heap.size w'.heap.size 43 3 D (resP s).length d (nsR.flat (resP s)) ∧ Kept 0 0 w w' := by
  have HS := Lib.hid nsSlice
  obtain ⟨t, ht⟩ : ∃ t, t = bs s := ⟨_, rfl⟩
  rw [← ht]
  have hz : t.size = s.length := by rw [ht, bs_size]
  have HZ := Lib.hid hz
  have hts : t.size ≤ 4294967280 := by omega
  have q0 : t.toList.isEmpty = decide (s = []) := by rw [ht, bs_isEmpty]
  have HT := Lib.hid ht
  clear ht hz
  by_cases h0 : s = []
  · rw [decide_eq_true h0] at q0
    have E : Hid (readP s = some []) := by show _ = _; rw [h0]; rfl
    clear h0
    go_enter Tryd.func18, Tryd.ntmps18
    go_wp2_with fail
    have e1 : resP s = [] := by unfold resP; rw [E.out]; rfl
    refine bodyPost_ret (v := .tuple #[.slice (some ⟨w.heap.size, 0, none⟩) 0 0, .bool true]) (by simp [results, Tryd.results18, go_sem]) rfl ⟨some ⟨w.heap.size, 0, none⟩, 0, by rw [e1, E.out]; rfl, ?_, Kept.alloc0 _ _⟩
    rw [e1]
    exact OwnZ.of_row (own_emptyZ (Blk.new w 43 #[]) (Nat.le_refl _))
  rw [decide_eq_false h0] at q0
  have H0 := Lib.hid h0
  clear h0
  go_enter Tryd.func18, Tryd.ntmps18
  go_wp2_with fail
  go_loopw [4, 5, 6] (fun v f i wr => ∃ (m k : Nat) (D : Option Addr) (d : Nat) (ws : List (List UInt8)) (zs : List Ins), i = .int .i64 k ∧ f = .int .i64 m ∧ v = .slice D zs.length d ∧ Hid ((k ≤ s.length ∧ SpS s ws m k) ∨ (k = s.length + 1 ∧ ws = split2 s)) ∧ Hid (readL ws = some zs) ∧ zs.length ≤ 12 ∧ Hid (wr.ownsRow w.heap.size 43 3 (.slice D zs.length d) zs.length (nsR.flat zs)) ∧ Hid (Kept 0 0 w wr)) (fun _ _ i _ => s.length + 2 - (intOf i).toNat)
  case atStart => exact ⟨0, 0, _, _, [], [], by rfl, by rfl, by rfl, .inl ⟨Nat.zero_le _, SpS.start _⟩, rfl, by simp, own_emptyZ (Blk.new w 43 #[]) (Nat.le_refl _), Kept.alloc0 _ _⟩
  case round =>
    obtain ⟨m, k, D, d, ws, zs, rfl, rfl, rfl, HI, HL, zl, HO, HK⟩ := hrel
    have zk := HK.out.size
    have HZ' := HZ.out
    by_cases hle : k ≤ s.length
    case neg =>
      have i1 : ¬ (k : Int) ≤ (t.size : Int) := by omega
      have E : Hid (readP s = some zs) := by
        rcases HI.out with ⟨h, _⟩ | ⟨_, h⟩
        · exact absurd h hle
        · exact readP_all H0.out (by rw [← h]; exact HL.out) zl
      clear HZ'
      go_wp2_with fail
      have e1 : resP s = zs := by unfold resP; rw [E.out]; rfl
      refine bodyPost_ret (v := .tuple #[.slice D zs.length d, .bool true]) (by simp [results, Tryd.results18, go_sem]) rfl ⟨D, d, by rw [e1, E.out]; rfl, ?_, HK.out⟩
      rw [e1]; exact OwnZ.of_row HO.out
    have i1 : (k : Int) ≤ (t.size : Int) := by omega
    have HP : Hid (SpS s ws m k) := by
      rcases HI.out with ⟨_, h⟩ | ⟨h, _⟩
      · exact h
      · omega
    clear HI
    obtain ⟨p, hp⟩ : ∃ p, p = (s.take k).drop m := ⟨_, rfl⟩
    have hx : t.extract m k = bs p := by rw [HT.out, bs_extract, hp]
    have hpl : p.length ≤ s.length := by rw [hp]; simp; omega
    have CP := Lib.hid (readI_any p (by omega))
    by_cases hlt : k < s.length
    · have i2 : ((k : Int) == (t.size : Int)) = false := by simp; omega
      have hkt : k < t.size := by omega
      have gb : t[k] = s[k] := bs_at s t HT.out k hlt hkt
      have hk0 : s[k]? = some s[k] := List.getElem?_eq_getElem hlt
      obtain ⟨c, hc⟩ : ∃ c, c = s[k] := ⟨_, rfl⟩
      rw [← hc] at gb hk0
      clear hc
      by_cases hlt1 : k + 1 < s.length
      case neg =>
        have i3 : ¬ ((k : Int) + 1 < (t.size : Int)) := by omega
        have HN : Hid (SpS s ws m (k + 1)) := HP.out.miss hlt (fun e => by have e2 := e.2; rw [List.getElem?_eq_none (by omega)] at e2; cases e2)
        have HLT := Lib.hid hlt
        clear HZ' hp HP hx hpl CP hk0
        go_wp2_with fail
        go_roundw
        case rel => exact ⟨m, k + 1, D, d, ws, zs, by go_num, by rfl, by rfl, .inl ⟨HLT.out, HN.out⟩, HL, zl, HO, HK⟩
        case measure => have := HLT.out; simp [intOf]; omega
      have i3 : (k : Int) + 1 < (t.size : Int) := by omega
      have hkt1 : k + 1 < t.size := by omega
      have gb1 : t[k + 1] = s[k + 1] := bs_at s t HT.out (k + 1) hlt1 hkt1
      have hk1 : s[k + 1]? = some s[k + 1] := List.getElem?_eq_getElem hlt1
      obtain ⟨c1, hc1⟩ : ∃ c1, c1 = s[k + 1] := ⟨_, rfl⟩
      rw [← hc1] at gb1 hk1
      clear hc1
      by_cases h59 : c = 59
      case neg =>
        have d1 : ((c.toNat : Int) == 59) = false := by
          have : c.toNat ≠ 59 := fun e => h59 (UInt8.toNat_inj.1 e)
          simp; omega
        have HN : Hid (SpS s ws m (k + 1)) := HP.out.miss hlt (fun e => by rw [hk0] at e; exact h59 (Option.some.inj e.1))
        have HLT := Lib.hid hlt
        clear HZ' hp HP hx hpl CP hk0 hk1 h59
        go_wp2_with fail
        go_roundw
        case rel => exact ⟨m, k + 1, D, d, ws, zs, by go_num, by rfl, by rfl, .inl ⟨HLT.out, HN.out⟩, HL, zl, HO, HK⟩
        case measure => have := HLT.out; simp [intOf]; omega
      have d1 : ((c.toNat : Int) == 59) = true := by rw [h59]; rfl
      by_cases h32 : c1 = 32
      case neg =>
        have d2 : ((c1.toNat : Int) == 32) = false := by
          have : c1.toNat ≠ 32 := fun e => h32 (UInt8.toNat_inj.1 e)
          simp; omega
        have HN : Hid (SpS s ws m (k + 1)) := HP.out.miss hlt (fun e => by rw [hk1] at e; exact h32 (Option.some.inj e.2))
        have HLT := Lib.hid hlt
        clear HZ' hp HP hx hpl CP hk0 hk1 h59 h32
        go_wp2_with fail
        go_roundw
        case rel => exact ⟨m, k + 1, D, d, ws, zs, by go_num, by rfl, by rfl, .inl ⟨HLT.out, HN.out⟩, HL, zl, HO, HK⟩
        case measure => have := HLT.out; simp [intOf]; omega
      have d2 : ((c1.toNat : Int) == 32) = true := by rw [h32]; rfl
      obtain ⟨hmk, hN, hE⟩ := HP.out.hit (by rw [hk0, h59]) (by rw [hk1, h32])
      rw [← hp] at hN hE
      have HN : Hid ((k ≤ s.length ∧ k + 1 ≤ s.length) ∧ SpS s (ws ++ [p]) (k + 2) (k + 1)) := ⟨⟨hle, hlt⟩, hN⟩
      have HE : Hid (∃ vs, split2 s = ws ++ p :: vs) := ⟨_, hE⟩
      have i4 : (m : Int) ≤ (k : Int) := by omega
      clear HZ' hp HP hpl hk0 hk1 h59 h32 hN hE
      have C2 := Lib.hid (CP.out wr)
      clear CP
      go_wp2_with fail
      with_reducible refine C2.out.mono ?_
      rintro e w2 ⟨x, rfl, hx2, hk2⟩
      have O2 := Lib.hid (row_kept HO.out hk2)
      have K2 := Lib.hid (HK.out.trans hk2)
      have z2 := hk2.size
      have HX := Lib.hid hx2
      clear hk2 HO HK C2 hx2
      obtain ⟨V, hV⟩ : ∃ V, V = w2.alloc (.cells #[.int .i64 x.op, .int .i64 x.a, .int .i64 x.b] 43) := ⟨_, rfl⟩
      have hkV : Kept 0 0 w2 V := by rw [hV]; exact Kept.alloc0 _ _
      have BV : Hid (Blk V w2.heap.size 43 #[.int .i64 x.op, .int .i64 x.a, .int .i64 x.b]) := by show Blk _ _ _ _; rw [hV]; exact Blk.new _ _ _
      have O3 := Lib.hid (row_kept O2.out hkV)
      have K3 := Lib.hid (K2.out.trans hkV)
      have z3 := hkV.size
      go_upto_region 10 with fail
      rw [← hV]
      clear hkV hV O2 K2
      have c0 := ins0 BV.out
      have c1' := ins1 BV.out
      have c2 := ins2 BV.out
      cases hr : readI p with
      | none =>
        have E : Hid (readP s = none) := by
          obtain ⟨vs, hvs⟩ := HE.out
          exact readP_refuse H0.out hvs HL.out (.inl hr)
        clear hr
        go_wp2_with fail
        have e1 : resP s = [] := by unfold resP; rw [E.out]; rfl
        refine bodyPost_ret (v := .tuple #[.slice (some ⟨V.heap.size, 0, none⟩) 0 0, .bool false]) (by simp [results, Tryd.results18, go_sem]) rfl ⟨some ⟨V.heap.size, 0, none⟩, 0, by rw [e1, E.out]; rfl, ?_, K3.out.alloc _⟩
        rw [e1]
        exact (OwnZ.of_row (own_emptyZ (Blk.new V 43 #[]) (Nat.le_refl _))).wide (by omega) (Nat.le_refl _)
      | some y =>
        have HY : Hid (readL (ws ++ [p]) = some (zs ++ [x])) := by
          show _ = _
          rw [readL_app, HL.out]
          simp only [readL, hr]
          rw [HX.out y hr]
        by_cases h12 : zs.length = 12
        · have j1 : ((zs.length : Int) == 12) = true := by simp; omega
          have E : Hid (readP s = none) := by
            obtain ⟨vs, hvs⟩ := HE.out
            exact readP_refuse H0.out hvs HL.out (.inr h12)
          clear hr h12
          go_wp2_with fail
          have e1 : resP s = [] := by unfold resP; rw [E.out]; rfl
          refine bodyPost_ret (v := .tuple #[.slice (some ⟨V.heap.size, 0, none⟩) 0 0, .bool false]) (by simp [results, Tryd.results18, go_sem]) rfl ⟨some ⟨V.heap.size, 0, none⟩, 0, by rw [e1, E.out]; rfl, ?_, K3.out.alloc _⟩
          rw [e1]
          exact (OwnZ.of_row (own_emptyZ (Blk.new V 43 #[]) (Nat.le_refl _))).wide (by omega) (Nat.le_refl _)
        · have j1 : ((zs.length : Int) == 12) = false := by simp; omega
          have zl2 : zs.length ≤ 11 := by omega
          clear hr h12
          go_wp2_with (at_builtin; go_must (refine wpList_app (R := nsR) rfl (.tmp 59) (.tmp 61) rfl HS.out w.heap.size D d zs rfl (row_kept O3.out (Kept.alloc0 V (.cells #[.int .i64 x.op, .int .i64 x.a, .int .i64 x.b] 43))) (V.heap.size + 1) (some ⟨V.heap.size, 0, none⟩) 1 [x] rfl (rd_litI3 V x) (by simp [maxLen]; omega) (by simp; omega) (by simp; omega) ?_); intro D2 d2 w3 hown hgrow hat)
          have K4 := Lib.hid ((K3.out.alloc (.cells #[.int .i64 x.op, .int .i64 x.a, .int .i64 x.b] 43)).app hgrow (fun g hg => (own_row_lo O3.out g hg).1))
          have O4 := Lib.hid hown
          clear hown hgrow hat O3 K3
          go_roundw
          case rel => exact ⟨k + 2, k + 1, D2, d2, ws ++ [p], zs ++ [x], by go_num, by go_num, by simp, .inl ⟨HN.out.1.2, HN.out.2⟩, HY, (by simp; omega), O4, K4⟩
          case measure => have := HN.out.1; simp [intOf]; omega
    · have i2 : ((k : Int) == (t.size : Int)) = true := by simp; omega
      obtain ⟨hmk, hE⟩ := HP.out.done (by omega)
      rw [← hp] at hE
      have HN : Hid (k = s.length ∧ ws ++ [p] = split2 s) := ⟨by omega, hE.symm⟩
      have HE : Hid (∃ vs, split2 s = ws ++ p :: vs) := ⟨[], hE⟩
      have i4 : (m : Int) ≤ (k : Int) := by omega
      clear HZ' hp HP hpl hE
      have C2 := Lib.hid (CP.out wr)
      clear CP
      go_wp2_with fail
      with_reducible refine C2.out.mono ?_
      rintro e w2 ⟨x, rfl, hx2, hk2⟩
      have O2 := Lib.hid (row_kept HO.out hk2)
      have K2 := Lib.hid (HK.out.trans hk2)
      have z2 := hk2.size
      have HX := Lib.hid hx2
      clear hk2 HO HK C2 hx2
      obtain ⟨V, hV⟩ : ∃ V, V = w2.alloc (.cells #[.int .i64 x.op, .int .i64 x.a, .int .i64 x.b] 43) := ⟨_, rfl⟩
      have hkV : Kept 0 0 w2 V := by rw [hV]; exact Kept.alloc0 _ _
      have BV : Hid (Blk V w2.heap.size 43 #[.int .i64 x.op, .int .i64 x.a, .int .i64 x.b]) := by show Blk _ _ _ _; rw [hV]; exact Blk.new _ _ _
      have O3 := Lib.hid (row_kept O2.out hkV)
      have K3 := Lib.hid (K2.out.trans hkV)
      have z3 := hkV.size
      go_upto_region 10 with fail
      rw [← hV]
      clear hkV hV O2 K2
      have c0 := ins0 BV.out
      have c1' := ins1 BV.out
      have c2 := ins2 BV.out
      cases hr : readI p with
      | none =>
        have E : Hid (readP s = none) := by
          obtain ⟨vs, hvs⟩ := HE.out
          exact readP_refuse H0.out hvs HL.out (.inl hr)
        clear hr
        go_wp2_with fail
        have e1 : resP s = [] := by unfold resP; rw [E.out]; rfl
        refine bodyPost_ret (v := .tuple #[.slice (some ⟨V.heap.size, 0, none⟩) 0 0, .bool false]) (by simp [results, Tryd.results18, go_sem]) rfl ⟨some ⟨V.heap.size, 0, none⟩, 0, by rw [e1, E.out]; rfl, ?_, K3.out.alloc _⟩
        rw [e1]
        exact (OwnZ.of_row (own_emptyZ (Blk.new V 43 #[]) (Nat.le_refl _))).wide (by omega) (Nat.le_refl _)
      | some y =>
        have HY : Hid (readL (ws ++ [p]) = some (zs ++ [x])) := by
          show _ = _
          rw [readL_app, HL.out]
          simp only [readL, hr]
          rw [HX.out y hr]
        by_cases h12 : zs.length = 12
        · have j1 : ((zs.length : Int) == 12) = true := by simp; omega
          have E : Hid (readP s = none) := by
            obtain ⟨vs, hvs⟩ := HE.out
            exact readP_refuse H0.out hvs HL.out (.inr h12)
          clear hr h12
          go_wp2_with fail
          have e1 : resP s = [] := by unfold resP; rw [E.out]; rfl
          refine bodyPost_ret (v := .tuple #[.slice (some ⟨V.heap.size, 0, none⟩) 0 0, .bool false]) (by simp [results, Tryd.results18, go_sem]) rfl ⟨some ⟨V.heap.size, 0, none⟩, 0, by rw [e1, E.out]; rfl, ?_, K3.out.alloc _⟩
          rw [e1]
          exact (OwnZ.of_row (own_emptyZ (Blk.new V 43 #[]) (Nat.le_refl _))).wide (by omega) (Nat.le_refl _)
        · have j1 : ((zs.length : Int) == 12) = false := by simp; omega
          have zl2 : zs.length ≤ 11 := by omega
          clear hr h12
          go_wp2_with (at_builtin; go_must (refine wpList_app (R := nsR) rfl (.tmp 59) (.tmp 61) rfl HS.out w.heap.size D d zs rfl (row_kept O3.out (Kept.alloc0 V (.cells #[.int .i64 x.op, .int .i64 x.a, .int .i64 x.b] 43))) (V.heap.size + 1) (some ⟨V.heap.size, 0, none⟩) 1 [x] rfl (rd_litI3 V x) (by simp [maxLen]; omega) (by simp; omega) (by simp; omega) ?_); intro D2 d2 w3 hown hgrow hat)
          have K4 := Lib.hid ((K3.out.alloc (.cells #[.int .i64 x.op, .int .i64 x.a, .int .i64 x.b] 43)).app hgrow (fun g hg => (own_row_lo O3.out g hg).1))
          have O4 := Lib.hid hown
          clear hown hgrow hat O3 K3
          go_roundw
          case rel => exact ⟨k + 2, k + 1, D2, d2, ws ++ [p], zs ++ [x], by go_num, by go_num, by simp, .inr ⟨by rw [HN.out.1], HN.out.2⟩, HY, (by simp; omega), O4, K4⟩
          case measure => have := HN.out.1; simp [intOf]; omega
end Go.Proofs.YtoccbmmjcbjacaaDoor
