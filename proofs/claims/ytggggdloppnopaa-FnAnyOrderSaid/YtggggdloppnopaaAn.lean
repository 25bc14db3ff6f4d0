/- Elements put in whatever order come out sorted: the plain part of the law of orders, and its helper 'heaped' under the contract of the program's Put; condition: the lists can be read. -/
import Derived.Test.YtggggdloppnopaaDd
import Derived.Test.YtggggdloppnopaaLh
namespace Go.Proofs.Ytggggdloppnopaa
open Go.RowKit Go.Sort

/-- How a number from 0 on lies in memory. -/
def natR : Rec Nat := ⟨1, fun n => [.int .i64 n], fun _ => rfl, by decide, fun x u hu => by
  simp only [List.mem_cons, List.not_mem_nil, or_false] at hu
  subst hu; rfl⟩
def nv (n : Nat) : Value := .int .i64 n
theorem natR_flat (xs : List Nat) : natR.flat xs = xs.map nv := by
  induction xs with
  | nil => rfl
  | cons x r ih => rw [natR.flat_cons, ih]; rfl
theorem RdR.nat {w : World} {B : Nat} {A : Option Addr} {xs : List Nat} (h : RdR natR w B A xs) : Rd nv w B A xs :=
  ⟨h.1, fun hn => by
    obtain ⟨ad, e, hb, hc⟩ := h.2 hn
    exact ⟨ad, e, hb, fun j x hx => hc j _ (by rw [natR_flat, List.getElem?_map, hx]; rfl)⟩⟩

def mkTw (dues : List Nat) (o : Nat) : Tw := ⟨(dues.getD o 0 : Nat), o, 0⟩
/-- A heap of these elements. -/
structure Heaped (dues order : List Nat) (t : HTree) : Prop where
  ok : t.ok = true
  els : t.els.Perm (order.map (mkTw dues))
theorem Heaped.nil (dues : List Nat) : Heaped dues [] .nil := ⟨rfl, List.Perm.refl _⟩
theorem Heaped.uniq {dues order : List Nat} {t : HTree} (h : Heaped dues order t) (hn : order.Nodup) : uniq t := by
  have := h.els.map Tw.seq
  unfold Go.Proofs.Ytggggdloppnopaa.uniq
  rw [List.Perm.nodup_iff this, List.map_map]
  have e : (Tw.seq ∘ mkTw dues) = fun o : Nat => (o : Int) := rfl
  rw [e]
  exact List.Pairwise.map _ (fun a b hab h => hab (by omega)) hn
theorem Heaped.size {dues order : List Nat} {t : HTree} (h : Heaped dues order t) : t.size = order.length := by
  have := h.els.length_eq
  rw [els_len] at this
  simpa using this
theorem twice_one (x : Tw) : twiceB [x] = false := by simp [twiceB]
theorem heapOk_one (d s : Int) : heapOkB [⟨d, s, 0⟩] = true :=
  heapOk_pre (t := .node d s .nil .nil) rfl (by simp [Go.Proofs.Ytggggdloppnopaa.uniq, HTree.els]) (by simp [HTree.size])
theorem treeOf_one (d s : Int) : treeOf [⟨d, s, 0⟩] = .node d s .nil .nil := treeOf_of (.node d s .nil .nil) rfl
/-- One more element is put. -/
theorem Heaped.put {dues order : List Nat} {t : HTree} (h : Heaped dues order t) {o : Nat} (hn : (order ++ [o]).Nodup) (hl : order.length + 1 ≤ 64) :
    putOk t.pre (dues.getD o 0 : Nat) o = true ∧ ∃ t', putL t.pre (dues.getD o 0 : Nat) o = t'.pre ∧ Heaped dues (order ++ [o]) t' := by
  have hn1 : order.Nodup := (List.nodup_append.1 hn).1
  have hu := h.uniq hn1
  have hk := heapOk_pre h.ok hu (by rw [h.size]; omega)
  have hap : apart t (.node (dues.getD o 0 : Nat) o .nil .nil) := by
    intro x hx y hy
    simp only [HTree.els, List.append_nil, List.mem_cons, List.not_mem_nil, or_false] at hy
    subst hy
    obtain ⟨o', ho', rfl⟩ := List.mem_map.1 (h.els.subset hx)
    intro e
    have e' : o' = o := by simp [mkTw] at e; omega
    subst e'
    exact (List.nodup_append.1 hn).2.2 o' ho' o' (by simp) rfl
  have htw : twiceB (t.pre ++ [⟨(dues.getD o 0 : Nat), o, 0⟩]) = false := by
    have : ((t.pre ++ ([⟨(dues.getD o 0 : Nat), o, 0⟩] : List Tw)).map Tw.seq).Nodup := by
      rw [List.map_append, List.nodup_append]
      refine ⟨by rw [← seqs_pre]; exact hu, by simp, ?_⟩
      intro a ha b hb e
      simp only [List.map_cons, List.map_nil, List.mem_cons, List.not_mem_nil, or_false] at hb
      rw [← seqs_pre] at ha
      obtain ⟨x, hx, rfl⟩ := List.mem_map.1 ha
      exact hap x hx ⟨(dues.getD o 0 : Nat), o, 0⟩ (by simp [HTree.els]) (by rw [e, hb])
    unfold twiceB
    rw [decide_eq_true this]
    rfl
  have hok : mergedOk t.pre [⟨(dues.getD o 0 : Nat), o, 0⟩] = true := mergedOk_iff.2 ⟨hk, heapOk_one _ _, by rw [HTree.pre_len, h.size]; simp; omega, htw⟩
  refine ⟨hok, mergeT t (.node (dues.getD o 0 : Nat) o .nil .nil), ?_, ?_, ?_⟩
  · unfold putL mergedL
    rw [hok, if_pos rfl, treeOf_of t h.ok, treeOf_one]
  · exact merge_ok _ _ h.ok rfl hap
  · refine (merge_els _ _).trans ?_
    rw [List.map_append]
    refine List.Perm.append h.els ?_
    simp [HTree.els, mkTw]

theorem twNat : SliceOf Try.prog 28 2 natR.k 8 := SliceOf.of Try.underlying28 (show (Try.prog.info? 2).map (fun i => (i.zero, i.size, i.bytes)) = some (some (.int .i64 0), 1, 8) by kernel_rfl) rfl

/-- What 'heaped' leaves. -/
def HeapedEnd (dues order : List Nat) (w : World) (e : Ending) (w' : World) : Prop :=
  ∃ (u : Value) (t : HTree), e = .returned (.tuple #[u, .bool true]) ∧ Heaped dues order t ∧ OwnT w' w.heap.size w'.heap.size u t.pre ∧ Kept 0 0 w w'

set_option maxHeartbeats 3200000 in
theorem heaped_any (hP : DoesTII 36 putL putOk) (dues order : List Nat) (A A' : Option Addr) (c c' : Nat) (w : World) (h : RdR natR w w.heap.size A dues) (h' : RdR natR w w.heap.size A' order)
    (hb : ∀ o ∈ order, o < dues.length) (hn : order.Nodup) (hl : order.length ≤ 20) :
    Calls Try.prog 16 #[.slice A dues.length c, .slice A' order.length c'] w (HeapedEnd dues order w) := by
  have H := Lib.hid h.nat
  have H' := Lib.hid h'.nat
  have HP := Lib.hid hP
  have HBD := Lib.hid hb
  have HND := Lib.hid hn
  clear h h' hP hb hn
  have O0 := Lib.hid (ownT_empty w)
  have K0 := Lib.hid (Kept.alloc0 w (.cells #[] 35))
  go_enter Try.func16, Try.ntmps16
  go_wp2_with fail
  go_loopw [6, 7, 8] (fun v b i wr => ∃ (k : Nat) (t : HTree), k ≤ order.length ∧ i = .int .i64 k ∧ b = .bool true ∧ Hid (Heaped dues (order.take k) t) ∧ Hid (OwnT wr w.heap.size wr.heap.size v t.pre) ∧ Hid (Kept 0 0 w wr)) (fun _ _ i _ => order.length - (intOf i).toNat)
  case atStart => exact ⟨0, .nil, Nat.zero_le _, rfl, rfl, Lib.hid (Heaped.nil _), O0, K0⟩
  case round =>
    clear O0 K0
    obtain ⟨k, t, hk, rfl, rfl, HH, HO, HK⟩ := hrel
    by_cases hlt : k < order.length
    · have i1 : (k : Int) < (order.length : Int) := by omega
      obtain ⟨ad', rfl, _, d0⟩ := (H'.out.kept (Nat.le_refl _) HK.out (.inl (Nat.le_refl _))).at_ hlt
      obtain ⟨o, ho⟩ : ∃ o, o = order[k] := ⟨_, rfl⟩
      have hob : o < dues.length := by rw [ho]; exact HBD.out _ (List.getElem_mem hlt)
      have TK : Hid (order.take (k + 1) = order.take k ++ [o]) := by show _ = _; rw [ho]; exact List.take_succ_eq_append_getElem hlt
      rw [← ho] at d0
      obtain ⟨ad, rfl, _, c0⟩ := (H.out.kept (Nat.le_refl _) HK.out (.inl (Nat.le_refl _))).at_ hob
      have i2 : (o : Int) < (dues.length : Int) := by omega
      have ed : dues.getD o 0 = dues[o] := by simp [List.getD_eq_getElem?_getD, hob]
      obtain ⟨ok1, t', et, ht'⟩ := HH.out.put (o := o) (by rw [← TK.out]; exact List.Nodup.sublist (List.take_sublist _ _) HND.out) (by simp; omega)
      rw [ed] at ok1 et
      have OK1 := Lib.hid ok1
      have ET := Lib.hid et
      have HT' := Lib.hid ht'
      have C0 : Hid (wr.cell? (ad.add o) = some (.int .i64 (dues[o] : Nat))) := c0
      have D0 : Hid (wr.cell? (ad'.add k) = some (.int .i64 (o : Nat))) := d0
      clear ho c0 d0 ed ok1 et ht'
      go_wp2_with fail
      go_region_held3 (fun w' => w'.cell? (ad'.add k) = some (.int .i64 (o : Nat)) ∧ w'.cell? (ad.add o) = some (.int .i64 (dues[o] : Nat)))
        (first | exact ⟨D0.out, C0.out⟩ | exact ⟨cell_kept k2 D0.out, cell_kept k2 C0.out⟩)
        (first | (go_at_call 36; refine (HP.out.at_ t.pre (dues[o] : Nat) (o : Nat) _ _ (by exact (HO.out.rdW (Nat.le_refl _)).up (Kept.refl 0 0 wr).drew)).mono ?_; rintro e w2 ⟨u, rfl, hown, hk2⟩; have k2 : Kept 0 0 wr w2 := (Kept.refl 0 0 wr).drew.trans hk2; have O2 : OwnT w2 wr.heap.size w2.heap.size u _ := hown; clear hk2 hown))
      all_goals
        rw [OK1.out]
        rw [ET.out] at O2
        have O3 := Lib.hid (O2.wide HK.out.size (Nat.le_refl _))
        have K3 := Lib.hid (HK.out.trans k2)
        clear k2 O2
        go_wp2_with fail
        go_roundw
        case rel => exact ⟨k + 1, t', by omega, by go_num, rfl, Lib.hid (by rw [TK.out]; exact HT'.out), O3, K3⟩
        case measure => simp [intOf]; omega
    · have i1 : ¬ (k : Int) < (order.length : Int) := by omega
      have ek : order.take k = order := List.take_of_length_le (by omega)
      rw [ek] at HH
      clear ek
      go_wp2
      go_ret2
      exact ⟨_, t, rfl, HH.out, HO.out, HK.out⟩
end Go.Proofs.Ytggggdloppnopaa
