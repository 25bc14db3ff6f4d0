/- The library's FormatInt, ParseInt, Cut, SplitN and Join as the program meets them: what they return, on lists of bytes, and that nothing old turns; condition: the library's variables hold what its text lays (Pow, Env). -/
import Derived.Test.YtoccbmmjcbjacaaDoorZs
import Derived.Test.YtoccbmmjcbjacaaDoorFj
namespace Go.Proofs.YtoccbmmjcbjacaaDoor
open Go.RowKit Go.Sort

/-- The library's table of powers of ten is laid. -/
def Pow (w : World) : Prop := Lib.TabIs Tryd.prog w "internal/strconv.uint64pow10" .u64 Lib.pow10Tab
/-- The library's variables hold what its text lays. -/
structure Env (w : World) : Prop where
  max : ∃ m, w.cell? ⟨0, 0, none⟩ = some (.int .i64 m)
  pow : Pow w
  syn : ∃ tp p, w.var? Tryd.prog "strconv.ErrSyntax" = some #[.iface tp p]
  rng : ∃ tp p, w.var? Tryd.prog "strconv.ErrRange" = some #[.iface tp p]
theorem var_kept {w w' : World} {n : String} {cs : Array Value} (h : w.var? Tryd.prog n = some cs) (hk : Kept 0 0 w w') : w'.var? Tryd.prog n = some cs := by
  unfold World.var? at h ⊢
  cases hg : Tryd.prog.globalNamed n with
  | none => rw [hg] at h; cases h
  | some g =>
    rw [hg] at h
    simp only [Option.bind_some] at h ⊢
    have hlt : g < w.heap.size := by
      cases hh : w.heap[g]? with
      | none => rw [hh] at h; cases h
      | some o => exact (Array.getElem?_eq_some_iff.1 hh).1
    rw [hk.block g hlt (.inr (Nat.zero_le _))]; exact h
theorem Pow.kept {w w' : World} (h : Pow w) (hk : Kept 0 0 w w') : Pow w' := var_kept h hk
theorem Env.kept {w w' : World} (h : Env w) (hk : Kept 0 0 w w') : Env w' := by
  obtain ⟨m, hm⟩ := h.max
  obtain ⟨t1, p1, h1⟩ := h.syn
  obtain ⟨t2, p2, h2⟩ := h.rng
  exact ⟨⟨m, cell_kept hk hm⟩, h.pow.kept hk, ⟨t1, p1, var_kept h1 hk⟩, ⟨t2, p2, var_kept h2 hk⟩⟩

theorem bs_data (l : List UInt8) : (bs l).data.toList = l := rfl
theorem bs_of (b : ByteArray) : bs b.data.toList = b := by cases b; rfl
theorem decDigits_eq (n : Nat) : Lib.decDigits n = digs n := by
  induction n using Nat.strongRecOn with
  | ind n ih =>
    by_cases h : n < 10
    · rw [digs_lt h, Lib.decDigits, dif_pos h]
    · rw [digs_ge h, Lib.decDigits, dif_neg h, ih (n / 10) (by omega)]
theorem fmt_any (n : Nat) (hn : n ≤ 9223372036854775807) (w : World) (hp : Pow w) : Calls Tryd.prog 65 #[.int .i64 n, .int .i64 10] w fun e w' => e = .returned (.string (bs (digs n))) ∧ Kept 0 0 w w' := by
  refine (Any.strconv_FormatInt_10 Tryd.laysM173 (n : Int) (by omega) (by omega) w hp).mono ?_
  rintro e w' ⟨rfl, k, os, rfl⟩
  refine ⟨?_, ?_⟩
  · have e1 : Lib.itoa (n : Int) = digs n := by rw [Lib.itoa, if_neg (by omega), Int.toNat_natCast, decDigits_eq]
    rw [e1]; rfl
  · exact Kept.of_below (below_regrown w _ _) _ _
/-- Where a text spells a number. -/
def spells (s : List UInt8) (v : Int) : Prop := Lib.parseIntB 64 s = .ok v
theorem bytesWorld_kept (w : World) (t : TypeId) (s : ByteArray) : Kept 0 0 w (Lib.bytesWorld w t s) := Kept.of_below (Lib.bytesWorld_below _ _ _) _ _
theorem parse_any (s : List UInt8) (hs : s.length ≤ 4294967280) (w : World) (he : Env w) : Calls Tryd.prog 72 #[.string (bs s), .int .i64 10, .int .i64 64] w fun e w' => ∃ v u, e = .returned (.tuple #[.int .i64 v, u]) ∧ (∀ v', spells s v' → v = v') ∧ (Lib.parseIntB 64 s = .«syntax» → v = 0) ∧ Kept 0 0 w w' := by
  have hz : (bs s).size = s.length := bs_size s
  cases h : Lib.parseIntB 64 (bs s).data.toList with
  | ok v =>
    refine (Any.strconv_ParseInt_10_at64_ok Tryd.laysC174 (bs s) (by omega) v h w).mono ?_
    rintro e w' ⟨rfl, hw⟩
    refine ⟨v, _, rfl, ?_, (fun h' => by rw [bs_data] at h; rw [h] at h'; cases h'), ?_⟩
    · intro v' hv
      have hv' : Lib.parseIntB 64 s = .ok v' := hv
      rw [bs_data] at h
      rw [h] at hv'; injection hv'
    · rcases hw with rfl | ⟨t, rfl⟩
      · exact Kept.refl _ _ _
      · exact bytesWorld_kept _ _ _
  | «syntax» =>
    obtain ⟨tp, p, hv⟩ := he.syn
    refine (Any.strconv_ParseInt_10_at64_syntax_var Tryd.laysC174 (bs s) (by omega) h tp p w hv).mono ?_
    rintro e w' ⟨N, rfl, _, _, hb⟩
    refine ⟨_, _, rfl, ?_, (fun _ => rfl), Kept.of_below hb _ _⟩
    intro v' hv
    have hv' : Lib.parseIntB 64 s = .ok v' := hv
    rw [bs_data] at h
    rw [h] at hv'; cases hv'
  | range =>
    obtain ⟨tp, p, hv⟩ := he.rng
    refine (Any.strconv_ParseInt_10_at64_range_var Tryd.laysC174 (bs s) (by omega) h tp p w hv).mono ?_
    rintro e w' ⟨N, rfl, _, _, hb⟩
    refine ⟨_, _, rfl, ?_, (fun h' => by rw [bs_data] at h; rw [h] at h'; cases h'), Kept.of_below hb _ _⟩
    intro v' hv
    have hv' : Lib.parseIntB 64 s = .ok v' := hv
    rw [bs_data] at h
    rw [h] at hv'; cases hv'
theorem cut_any (s sep : List UInt8) (hs : s.length ≤ 4294967280) (w : World) (he : Env w) : Calls Tryd.prog 54 #[.string (bs s), .string (bs sep)] w fun e w' => e = .returned (.tuple #[.string (bs (Lib.cut s sep).1), .string (bs (Lib.cut s sep).2.1), .bool (Lib.cut s sep).2.2]) ∧ Kept 0 0 w w' := by
  obtain ⟨m, hm⟩ := he.max
  refine (Any.strings_Cut { Tryd.laysM145 with } (bs s) (bs sep) m w (by rw [bs_size]; omega) hm).mono ?_
  rintro e w' ⟨rfl, n, rfl⟩
  exact ⟨rfl, (Kept.refl _ _ _).drewN _⟩
theorem sflat (xs : List (List UInt8)) : sR.flat xs = xs.map fun x => Value.string (bs x) := by
  induction xs with
  | nil => rfl
  | cons x r ih => rw [Rec.flat_cons, ih]; rfl
theorem splitN_any (s sep : List UInt8) (n : Nat) (hs : s.length ≤ 4294967280) (h1 : 1 ≤ sep.length) (hn : 1 ≤ n) (hn2 : n ≤ 1000) (w : World) (he : Env w) : Calls Tryd.prog 29 #[.string (bs s), .string (bs sep), .int .i64 n] w fun e w' => ∃ D d, e = .returned (.slice D (Lib.splitN s sep n).length d) ∧ OwnZ w' w.heap.size w'.heap.size 9 1 D (Lib.splitN s sep n).length d (sR.flat (Lib.splitN s sep n)) ∧ Kept 0 0 w w' := by
  obtain ⟨m, hm⟩ := he.max
  refine (Any.strings_SplitN { Tryd.laysM147 with } Tryd.laysM147.i9 (bs s) (bs sep) n m w (by rw [bs_size]; omega) hm (by rw [bs_size]; exact h1) hn (by omega)).mono ?_
  rintro e w' ⟨rfl, rfl⟩
  obtain ⟨N, hN⟩ : ∃ N, N = min n ((bs s).size + 1) := ⟨_, rfl⟩
  rw [← hN]
  obtain ⟨ps, hp⟩ : ∃ ps, ps = Lib.splitB (bs sep) 0 (N - 1) (bs s) := ⟨_, rfl⟩
  rw [← hp]
  have hl : ps.length ≤ N := by
    have := Lib.splitB_length_le (bs sep) 0 (N - 1) (bs s)
    rw [← hp] at this
    have : 1 ≤ N := by rw [hN]; omega
    omega
  have hd : ps.map (·.data.toList) = Lib.splitN s sep n := by
    rw [hp, Lib.splitB_data, bs_data, bs_data, hN, bs_size]; rfl
  have hL : (Lib.splitN s sep n).length = ps.length := by rw [← hd, List.length_map]
  have hf : sR.flat (Lib.splitN s sep n) = ps.map Value.string := by
    rw [sflat, ← hd, List.map_map]
    refine List.map_congr_left fun b _ => ?_
    simp only [Function.comp_apply]
    rw [bs_of]
  rw [hL, hf]
  refine ⟨some ⟨w.heap.size, 0, none⟩, N, rfl, OwnZ.mk_ (g := w.heap.size) ⟨by simp, .inr ⟨w.heap.size, N, Lib.cellsOf ps N, rfl, Nat.le_refl _, heap_alloc_new w _, hl, ?_, ?_, ?_⟩⟩ (by simp), Kept.alloc0 _ _⟩
  · have : N ≤ n := by rw [hN]; omega
    unfold maxLen; omega
  · rw [Lib.cellsOf_size hl, Nat.mul_one]
  · rw [Nat.mul_one, Lib.cellsOf]
    show List.take ps.length (ps.map Value.string ++ _) = _
    rw [List.take_append_of_le_length (by simp), List.take_of_length_le (by simp)]
theorem join_eq (xs : List (List UInt8)) (sep : List UInt8) : Lib.join xs sep = joinW sep xs := by
  induction xs with
  | nil => rfl
  | cons x r ih =>
    cases r with
    | nil => rw [Lib.join_one]; rfl
    | cons y r =>
      rw [Lib.join_cons] at ih ⊢
      rw [joinW_cons sep x (by simp), ← ih]
      simp [Lib.joinTail]
theorem join_any (xs : List (List UInt8)) (sep : List UInt8) (D : Option Addr) (d lo hi : Nat) (w : World) (h : OwnZ w lo hi 9 1 D xs.length d (sR.flat xs)) (hn : (joinW sep xs).length ≤ 1099511627776) (hx2 : xs.length ≤ 1048576) :
    Calls Tryd.prog 24 #[.slice D xs.length d, .string (bs sep)] w fun e w' => e = .returned (.string (bs (joinW sep xs))) ∧ Kept 0 0 w w' := by
  have hc := h.cap
  unfold maxLen at hc
  rcases h.form with ⟨rfl, h0, rfl⟩ | ⟨g, rfl, _, _, hg⟩
  · have hx : xs = [] := List.eq_nil_of_length_eq_zero h0
    subst hx
    refine (Any.strings_Join_none Tryd.lays156 Tryd.Builder_Extra_156 none 0 (bs sep) w).mono ?_
    rintro e w' ⟨rfl, rfl⟩
    exact ⟨rfl, Kept.refl _ _ _⟩
  · have e1 : (xs.map bs).map (·.data.toList) = xs := by rw [List.map_map]; exact List.map_id' xs
    have e2 : (xs.map bs).length = xs.length := List.length_map ..
    have hj : Lib.join ((xs.map bs).map (·.data.toList)) (bs sep).data.toList = joinW sep xs := by rw [e1]; exact join_eq xs sep
    have hcells : ∀ (j : Nat) x, (xs.map bs)[j]? = some x → w.cell? ⟨g, 0 + j, none⟩ = some (.string x) := by
      intro j x hx
      rw [List.getElem?_map] at hx
      cases hxj : xs[j]? with
      | none => rw [hxj] at hx; cases hx
      | some y =>
        rw [hxj] at hx
        injection hx with hx
        subst hx
        obtain ⟨hjl, hy⟩ := List.getElem?_eq_some_iff.1 hxj
        have := own_at (R := sR) h.1 hjl 0 (u := .string (bs y)) (by rw [hy]; rfl)
        rw [sR_k, Nat.mul_one, Nat.add_zero] at this
        rw [Nat.zero_add]; exact this
    have C := Any.strings_Join Tryd.lays156 Tryd.Builder_Extra_156 g 0 d (xs.map bs) (bs sep) w hcells hg (by rw [e2]; omega) (by rw [e2]; exact hc.1) (by rw [hj]; omega)
    rw [hj, e2] at C
    refine C.mono ?_
    rintro e w' ⟨rfl, hb⟩
    exact ⟨rfl, Kept.of_below hb _ _⟩
end Go.Proofs.YtoccbmmjcbjacaaDoor
