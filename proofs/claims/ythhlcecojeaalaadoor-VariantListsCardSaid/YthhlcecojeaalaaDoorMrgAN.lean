/-
  Texts that the laws of this seat lean on, one behind the other.
-/
import Derived.Test.YthhlcecojeaalaaDoorMrgAI
import Derived.Test.YthhlcecojeaalaaDoorMrgK
import Derived.Test.YthhlcecojeaalaaDoorMrgJ
import Derived.Shelf.Abstract
import Derived.Deep.Cut
import Derived.Test.YthhlcecojeaalaaDoorMrgAC
set_option linter.unusedSimpArgs false
set_option linter.unusedVariables false
/-
  Package variant: slices.Clone on fields and on picks; a stored reply with lists of its own (copied).
-/
section
namespace Go.Proofs.YthhlcecojeaalaaDoor
open Go.RowKit
set_option linter.unusedSimpArgs false

theorem freshOf {w : World} {base e k n m c : Nat} {A : Option Addr} {cs : List Value} (h : w.ownsRow base e k (.slice A n c) m cs) : ∀ ad, A = some ad → base ≤ ad.block := fun ad hA => by
  rcases h.2 with ⟨h1, _⟩ | ⟨g, cap, cur, h1, h2, _⟩
  · cases h1; cases hA
  · cases h1; cases hA; exact h2
theorem rowAt {w : World} {g t : Nat} {cs : Array Value} (h : w.heap[g]? = some (.cells cs t (0, 0))) (k : Nat) (u : Value) (hu : cs[k]? = some u) : w.cell? ⟨g, k, none⟩ = some u ∧ w.frozen? ⟨g, k, none⟩ = false :=
  ⟨by rw [cell_of_row _ _ _ _ _ _ h]; exact hu, by simp [World.frozen?, h]⟩
theorem rowSet {w : World} {R t k : Nat} {cs : Array Value} (h : w.heap[R]? = some (.cells cs t (0, 0))) (u : Value) : (w.setCell ⟨R, k, none⟩ u).heap[R]? = some (.cells (cs.setIfInBounds k u) t (0, 0)) := by
  simp [World.setCell, Array.getElem?_modify, h]
theorem setOther {w : World} {R k j : Nat} {u : Value} (h : j ≠ R) : (w.setCell ⟨R, k, none⟩ u).heap[j]? = w.heap[j]? := Below.heap_setCell _ _ _ _ h

theorem rowOther {w : World} {g j : Nat} (h : j ≠ g) (cs : Array Value) : (w.setRow g cs).heap[j]? = w.heap[j]? := by
  simp [World.setRow, Array.getElem?_modify, Ne.symm h]
theorem SdTy.below {w w' : World} {y : Sd} (h : SdTy w y) (hb : Below w.heap.size w w') : SdTy w' y :=
  h.keep (fun ad ha => hb.block _ (h.f.lt ad ha)) (fun ad ha => hb.block _ (h.k.lt ad ha))

set_option maxHeartbeats 8000000 in
set_option maxRecDepth 100000 in
/-- slices.Clone on picks. -/
theorem cloneK2 (A : Option Addr) (n c : Nat) (L : List Pk) (w : World) (h : SlK w A n c L) (hn : n ≤ 100000000) :
    Calls Tryd.prog 49 #[.slice A n c] w fun e w' => ∃ A' c', e = .returned (.slice A' n c') ∧ SlK w' A' n c' L ∧ FreshA w A' ∧ TyA w' A' 53 ∧ Below w.heap.size w w' := by
  have hlen := h.len
  subst hlen
  have hsz := h.sz
  have q := fun (w : World) (a : Option Addr) (n c n' c' : Nat) => Lib.run_eql_slice_nil (P := Tryd.prog) w _ _ a n c n' c' Tryd.underlying26
  cases A with
  | none =>
    obtain ⟨hn0, hc0, rfl⟩ := h.none_eq
    subst hc0
    go_enter Tryd.func49, Tryd.ntmps49
    go_wp2_with fail
    go_ret
    exact ⟨none, 0, rfl, SlK.none_ _, fun ad e => (by cases e), TyA.none_ _ _, Below.refl _ _⟩
  | some ad =>
    have HK := Lib.hid (h.alloc (.cells #[] 53))
    have HO : Hid (OwnK (w.alloc (.cells #[] 53)) w.heap.size 53 (.slice (some ⟨w.heap.size, 0, none⟩) 0 0) []) := World.ownsRow_made w _ 0 (Nat.le_refl _) (by decide) (by simp)
    have HB : Hid (Below w.heap.size w (w.alloc (.cells #[] 53))) := (Below.refl _ _).alloc (Nat.le_refl _) _
    have hb1 : w.heap.size ≤ (w.alloc (.cells #[] 53)).heap.size := HB.out.size
    clear h
    go_enter Tryd.func49, Tryd.ntmps49
    go_wp2_with (at_builtin; refine wpList_append_slk rfl _ _ _ rfl w.heap.size 53 Tryd.underlying26 (by kernel_rfl) _ rfl [] HO.out _ _ _ rfl L HK.out (by simpa using hn) hb1 w HB.out ?_; intro v1 w2 ho2 hb2 hz2)
    obtain ⟨A1, c1, rfl, hS⟩ := ho2.out.slk (by simpa using hsz)
    have hfr := freshOf ho2.out
    have hty := TyA.of_own ho2.out
    simp only [List.nil_append] at hS hfr ⊢
    go_wp2_with fail
    go_ret
    exact ⟨A1, c1, rfl, hS, hfr, hty, hb2⟩

set_option maxHeartbeats 8000000 in
set_option maxRecDepth 100000 in
/-- slices.Clone on fields. -/
theorem cloneF2 (A : Option Addr) (n c : Nat) (L : List Fd) (w : World) (h : SlF w A n c L) (hn : n ≤ 100000000) :
    Calls Tryd.prog 48 #[.slice A n c] w fun e w' => ∃ A' c', e = .returned (.slice A' n c') ∧ SlF w' A' n c' L ∧ FreshA w A' ∧ TyA w' A' 62 ∧ Below w.heap.size w w' := by
  have hlen := h.len
  subst hlen
  have hsz := h.sz
  have q := fun (w : World) (a : Option Addr) (n c n' c' : Nat) => Lib.run_eql_slice_nil (P := Tryd.prog) w _ _ a n c n' c' Tryd.underlying23
  cases A with
  | none =>
    obtain ⟨hn0, hc0, rfl⟩ := h.none_eq
    subst hc0
    go_enter Tryd.func48, Tryd.ntmps48
    go_wp2_with fail
    go_ret
    exact ⟨none, 0, rfl, SlF.none_ _, fun ad e => (by cases e), TyA.none_ _ _, Below.refl _ _⟩
  | some ad =>
    have HK := Lib.hid (h.alloc (.cells #[] 62))
    have HO : Hid (OwnF (w.alloc (.cells #[] 62)) w.heap.size 62 (.slice (some ⟨w.heap.size, 0, none⟩) 0 0) []) := World.ownsRow_made w _ 0 (Nat.le_refl _) (by decide) (by simp)
    have HB : Hid (Below w.heap.size w (w.alloc (.cells #[] 62))) := (Below.refl _ _).alloc (Nat.le_refl _) _
    have hb1 : w.heap.size ≤ (w.alloc (.cells #[] 62)).heap.size := HB.out.size
    clear h
    go_enter Tryd.func48, Tryd.ntmps48
    go_wp2_with (at_builtin; refine wpList_append_slf rfl _ _ _ rfl w.heap.size 62 Tryd.underlying23 (by kernel_rfl) _ rfl [] HO.out _ _ _ rfl L HK.out (by simp; omega) hb1 w HB.out ?_; intro v1 w2 ho2 hb2 hz2)
    obtain ⟨A1, c1, rfl, hS⟩ := ho2.out.slf (by simpa using hsz)
    have hfr := freshOf ho2.out
    have hty := TyA.of_own ho2.out
    simp only [List.nil_append] at hS hfr ⊢
    go_wp2_with fail
    go_ret
    exact ⟨A1, c1, rfl, hS, hfr, hty, hb2⟩

/-- A stored reply, with lists of the call's own. -/
def IsCp (w : World) (x : Sv) (e : Ending) (w' : World) : Prop := ∃ y : Sd, e = .returned (.agg (sdA y)) ∧ y.x = x ∧ SdTy w' y ∧ FreshA w y.fa ∧ FreshA w y.pa ∧ Below w.heap.size w w'

set_option maxHeartbeats 8000000 in
set_option maxRecDepth 100000 in
theorem copied_any (y : Sd) (w : World) (hy : SdAt w y) (hf : y.x.s.f.length ≤ 100000000) (hp : y.x.p.length ≤ 100000000) :
    Calls Tryd.prog 32 #[.agg (sdA y)] w (IsCp w y.x) := by
  obtain ⟨⟨⟨sc, sr, sv, f, sb, st⟩, p⟩, fa, fc, pa, pc⟩ := y
  have HY := Lib.hid hy
  unfold IsCp
  rw [show sdA ⟨⟨⟨sc, sr, sv, f, sb, st⟩, p⟩, fa, fc, pa, pc⟩ = #[.int .i64 sc, .string sr, .int .i64 sv, .slice fa f.length fc, .string sb, .int .i64 st, .slice pa p.length pc] from rfl]
  simp only at hf hp
  clear hy
  obtain ⟨V0, hV0⟩ : ∃ V, V = (w.alloc (.cells #[.int .i64 sc, .string sr, .int .i64 sv, .slice fa f.length fc, .string sb, .int .i64 st, .slice pa p.length pc] 28)).alloc (.cells #[.int .i64 0, .string ⟨#[]⟩, .int .i64 0, .slice none 0 0, .string ⟨#[]⟩, .int .i64 0, .slice none 0 0] 28) := ⟨_, rfl⟩
  have HB0 : Hid (Below w.heap.size w V0) := by
    show Below _ _ _
    rw [hV0]
    exact ((Below.refl _ _).alloc (Nat.le_refl _) _).alloc (by simp) _
  have ZA0 : Hid (V0.heap[w.heap.size]? = some (.cells #[.int .i64 sc, .string sr, .int .i64 sv, .slice fa f.length fc, .string sb, .int .i64 st, .slice pa p.length pc] 28 (0, 0))) := by
    show _ = _
    rw [hV0]
    exact zero_more (heap_alloc_new w _)
  have ZR0 : Hid (V0.heap[w.heap.size + 1]? = some (.cells #[.int .i64 0, .string ⟨#[]⟩, .int .i64 0, .slice none 0 0, .string ⟨#[]⟩, .int .i64 0, .slice none 0 0] 28 (0, 0))) := by
    show _ = _
    rw [hV0]
    have := heap_alloc_new (w.alloc (.cells #[.int .i64 sc, .string sr, .int .i64 sv, .slice fa f.length fc, .string sb, .int .i64 st, .slice pa p.length pc] 28)) (.cells #[.int .i64 0, .string ⟨#[]⟩, .int .i64 0, .slice none 0 0, .string ⟨#[]⟩, .int .i64 0, .slice none 0 0] 28)
    rwa [show ∀ o : Obj, (w.alloc o).heap.size = w.heap.size + 1 from fun o => by simp] at this
  have C1 := Lib.hid (cloneF2 fa f.length fc f V0 (HY.out.below HB0.out).f hf)
  obtain ⟨a3, b3⟩ := rowAt ZA0.out 3 _ rfl
  have hs0 : V0.heap.size = w.heap.size + 2 := by rw [hV0]; simp
  have HS0 := Lib.hid hs0
  clear hs0
  go_enter Tryd.func32, Tryd.ntmps32
  go_upto_region 1 with fail
  rw [← hV0]
  clear hV0
  go_wp2_with fail
  refine C1.out.mono ?_
  rintro e w1 ⟨A1, c1, rfl, hF1, f1, t1, hb1⟩
  clear C1 a3 b3
  have ZA1 := Lib.hid (zero_still hb1 ZA0.out)
  have ZR1 := Lib.hid (zero_still hb1 ZR0.out)
  have HF1 := Lib.hid hF1
  have HN1 := Lib.hid f1
  have T1 := Lib.hid t1
  have HB1 := Lib.hid hb1
  obtain ⟨a3, b3⟩ := rowAt ZA1.out 3 _ rfl
  clear hF1 f1 t1 hb1
  go_upto_region 2 with fail
  clear a3 b3
  obtain ⟨V1, hV1⟩ : ∃ V, w1.setCell ⟨w.heap.size, 3, none⟩ (.slice A1 f.length c1) = V := ⟨_, rfl⟩
  have ZA2 := Lib.hid (rowSet (k := 3) ZA1.out (.slice A1 f.length c1))
  have ZR2 : Hid ((w1.setCell ⟨w.heap.size, 3, none⟩ (.slice A1 f.length c1)).heap[w.heap.size + 1]? = _) := (setOther (by omega)).trans ZR1.out
  have HB2 : Hid (Below w.heap.size w (w1.setCell ⟨w.heap.size, 3, none⟩ (.slice A1 f.length c1))) := (HB0.out.trans (HB1.out.mono HB0.out.size)).setCell (p := ⟨w.heap.size, 3, none⟩) (Nat.le_refl _) _
  have HF2 : Hid (SlF (w1.setCell ⟨w.heap.size, 3, none⟩ (.slice A1 f.length c1)) A1 f.length c1 f) := HF1.out.blocks fun ad e => setOther (by have := HN1.out ad e; have := HS0.out; omega)
  have hsz : w1.heap.size = (w1.setCell ⟨w.heap.size, 3, none⟩ (.slice A1 f.length c1)).heap.size := by simp
  have T12 : Hid (TyA (w1.setCell ⟨w.heap.size, 3, none⟩ (.slice A1 f.length c1)) A1 62) := T1.out.keep fun ad e => setOther (by have := HN1.out ad e; have := HS0.out; omega)
  rw [hV1] at ZA2 ZR2 HB2 HF2 hsz T12
  try rw [hV1]
  have HZ1 : Hid (V0.heap.size ≤ V1.heap.size) := Nat.le_trans HB1.out.size (Nat.le_of_eq hsz)
  clear hV1 hsz
  simp only [List.setIfInBounds_toArray, List.set_cons_succ, List.set_cons_zero] at ZA2
  have C2 := Lib.hid (cloneK2 pa p.length pc p V1 (HY.out.below HB2.out).k hp)
  obtain ⟨a6, b6⟩ := rowAt ZA2.out 6 _ rfl
  go_wp2_with fail
  refine C2.out.mono ?_
  rintro e w2 ⟨A2, c2, rfl, hK2, f2, t2, hb2⟩
  clear C2 a6 b6
  have ZA3 := Lib.hid (zero_still hb2 ZA2.out)
  have ZR3 := Lib.hid (zero_still hb2 ZR2.out)
  have HF3 := Lib.hid (HF2.out.below hb2)
  have HK3 := Lib.hid hK2
  have T13 : Hid (TyA w2 A1 62) := T12.out.keep fun ad e => hb2.block _ (T12.out.lt ad e)
  have HN2 := Lib.hid f2
  have T2 := Lib.hid t2
  have HB3 := Lib.hid (HB2.out.trans (hb2.mono HB2.out.size))
  obtain ⟨a6, b6⟩ := rowAt ZA3.out 6 _ rfl
  clear hK2 f2 t2 hb2
  go_upto_region 3 with fail
  clear a6 b6
  obtain ⟨V2, hV2⟩ : ∃ V, w2.setCell ⟨w.heap.size, 6, none⟩ (.slice A2 p.length c2) = V := ⟨_, rfl⟩
  have ZA4 := Lib.hid (rowSet (k := 6) ZA3.out (.slice A2 p.length c2))
  have ZR4 : Hid ((w2.setCell ⟨w.heap.size, 6, none⟩ (.slice A2 p.length c2)).heap[w.heap.size + 1]? = _) := (setOther (by omega)).trans ZR3.out
  have HB4 : Hid (Below w.heap.size w (w2.setCell ⟨w.heap.size, 6, none⟩ (.slice A2 p.length c2))) := HB3.out.setCell (p := ⟨w.heap.size, 6, none⟩) (Nat.le_refl _) _
  have HF4 : Hid (SlF (w2.setCell ⟨w.heap.size, 6, none⟩ (.slice A2 p.length c2)) A1 f.length c1 f) := HF3.out.blocks fun ad e => setOther (by have := HN1.out ad e; have := HS0.out; omega)
  have HK4 : Hid (SlK (w2.setCell ⟨w.heap.size, 6, none⟩ (.slice A2 p.length c2)) A2 p.length c2 p) := HK3.out.blocks fun ad e => setOther (by have := HN2.out ad e; have := HS0.out; have := HZ1.out; omega)
  have T14 : Hid (TyA (w2.setCell ⟨w.heap.size, 6, none⟩ (.slice A2 p.length c2)) A1 62) := T13.out.keep fun ad e => setOther (by have := HN1.out ad e; have := HS0.out; omega)
  have T24 : Hid (TyA (w2.setCell ⟨w.heap.size, 6, none⟩ (.slice A2 p.length c2)) A2 53) := T2.out.keep fun ad e => setOther (by have := HN2.out ad e; have := HS0.out; have := HZ1.out; omega)
  rw [hV2] at ZA4 ZR4 HB4 HF4 HK4 T14 T24
  try rw [hV2]
  clear hV2
  simp only [List.setIfInBounds_toArray, List.set_cons_succ, List.set_cons_zero] at ZA4
  obtain ⟨x0, x1, x2, x3, x4, x5, x6⟩ := cel7 ZA4.out
  go_wp2_with (refine wpList_store_row rfl _ _ _ rfl (w.heap.size + 1) #[.int .i64 sc, .string sr, .int .i64 sv, .slice A1 f.length c1, .string sb, .int .i64 st, .slice A2 p.length c2] rfl rfl 28 _ ZR4.out (by kernel_rfl) rfl (by simp [Value.oneCell']) ?_)
  refine bodyPost_ret (results_cell_row rfl _ _ (w.heap.size + 1) 28 #[.int .i64 sc, .string sr, .int .i64 sv, .slice A1 f.length c1, .string sb, .int .i64 st, .slice A2 p.length c2] (0, 0) _ rfl (setRow_heap _ _ _ _ _ _ ZR4.out) Tryd.underlying28 rfl (by kernel_rfl)) rfl ?_
  have h0 := HS0.out
  have h1 := HZ1.out
  refine ⟨⟨⟨⟨sc, sr, sv, f, sb, st⟩, p⟩, A1, c1, A2, c2⟩, rfl, rfl, ⟨⟨HF4.out.setRow (fun ad e => by have := HN1.out ad e; omega) _, HK4.out.setRowD (fun _ ad e => by have := HN2.out ad e; omega) _⟩, T14.out.keep fun ad e => rowOther (by have := HN1.out ad e; omega) _, T24.out.keep fun ad e => rowOther (by have := HN2.out ad e; omega) _⟩, fun ad e => by have := HN1.out ad e; omega, fun ad e => by have := HN2.out ad e; omega, below_setRow HB4.out (by omega) _⟩

end Go.Proofs.YthhlcecojeaalaaDoor
end

/-
  Contract of package variant's Add.
-/
section
namespace Go.Proofs.YthhlcecojeaalaaDoor
open Go.RowKit
set_option linter.unusedSimpArgs false

theorem add_nx (L : List Sv) (P : List Pk) (X : List Sv) (k : Nat) (h : k < L.length) (D : List Sv) (hD : D = X ++ ((L.drop k).filter fun z => !pksB z.p P).take (4 - X.length)) :
    (X.length < 4 → pksB L[k].p P = false → D = (X ++ [L[k]]) ++ ((L.drop (k + 1)).filter fun z => !pksB z.p P).take (4 - (X ++ [L[k]]).length)) ∧
    (4 ≤ X.length ∨ pksB L[k].p P = true → D = X ++ ((L.drop (k + 1)).filter fun z => !pksB z.p P).take (4 - X.length)) := by
  rw [List.drop_eq_getElem_cons h, List.filter_cons] at hD
  refine ⟨fun h4 hq => ?_, fun hq => ?_⟩
  · rw [hD, hq]
    simp only [Bool.not_false, if_true]
    rw [show 4 - X.length = (4 - (X ++ [L[k]]).length) + 1 by rw [List.length_append, List.length_singleton]; omega, List.take_succ_cons, List.append_assoc]; rfl
  · rcases hq with h4 | hq
    · rw [hD, show 4 - X.length = 0 by omega, List.take_zero, List.take_zero]
    · rw [hD, hq]
      simp
/-- Stored replies whose lists are the call's own. -/
def AllTy (w : World) (X : List Sd) : Prop := ∀ z ∈ X, SdTy w z ∧ (z.x.s.r.size ≤ maxLen ∧ z.x.s.b.size ≤ maxLen)
theorem AllTy.below {w w' : World} {X : List Sd} (h : AllTy w X) (hb : Below w.heap.size w w') : AllTy w' X := fun z hz => ⟨(h z hz).1.below hb, (h z hz).2⟩
theorem AllTy.grown {w w' : World} {base e k m : Nat} {v : Value} {cs : List Value} {X : List Sd} (h : AllTy w X) (ho : w.ownsRow base e k v m cs) (h1 : (62 == e) = false) (h2 : (53 == e) = false) (hg : w.grownBy w' v.ownBlock) : AllTy w' X :=
  fun z hz => ⟨(h z hz).1.grown ho h1 h2 hg, (h z hz).2⟩
theorem AllTy.snoc {w : World} {X : List Sd} {y : Sd} (h : AllTy w X) (hy : SdTy w y) (hz : y.x.s.r.size ≤ maxLen ∧ y.x.s.b.size ≤ maxLen) : AllTy w (X ++ [y]) := fun z hz' => by
  rcases List.mem_append.1 hz' with h1 | h1
  · exact h z h1
  · obtain rfl := List.mem_singleton.1 h1
    exact ⟨hy, hz⟩
theorem sd_ends {w0 w : World} {base e : Nat} {v : Value} {X : List Sd} (ho : OwnD w base e v X) (h : AllTy w X) (hb : Below w0.heap.size w0 w) : IsSd w0 (X.map fun z => z.x) (.returned v) w := by
  obtain ⟨A, c, e, hS⟩ := ho.sld (fun y hy => (h y hy).1.a) (fun y hy => (h y hy).2)
  exact ⟨A, c, X, by rw [e], hS, rfl, hb⟩

set_option maxHeartbeats 16000000 in
set_option maxRecDepth 100000 in
theorem vntA_any (A : Option Addr) (n c : Nat) (L : List Sd) (y : Sd) (w : World) (h : SlD w A n c L) (hy : SdAt w y) (hn : n ≤ 100000000) (hp : ∀ z ∈ L, z.x.p.length ≤ 100000000 ∧ z.x.s.f.length ≤ 100000000) (hyp : y.x.p.length ≤ 100000000 ∧ y.x.s.f.length ≤ 100000000) (hyz : y.x.s.r.size ≤ maxLen ∧ y.x.s.b.size ≤ maxLen) :
    Calls Tryd.prog 14 #[.slice A n c, .agg (sdA y)] w (IsSd w (addV (L.map fun z => z.x) y.x)) := by
  have hlen := h.len
  subst hlen
  obtain ⟨D, hD⟩ : ∃ D, D = addV (L.map fun z => z.x) y.x := ⟨_, rfl⟩
  rw [← hD]
  have HY := Lib.hid hy
  have HYZ := Lib.hid hyz
  have HDD : Hid (D = [y.x] ++ (((L.map fun z => z.x).drop 0).filter fun z => !pksB z.p y.x.p).take (4 - [y.x].length)) := by
    show _ = _
    rw [hD]
    rfl
  clear hD
  have CY := Lib.hid (fun W (hW : Below w.heap.size w W) => copied_any y W (hy.below hW) hyp.2 hyp.1)
  obtain ⟨⟨⟨sc, sr, sv, f, sb, st⟩, p⟩, fa, fc, pa, pc⟩ := y
  rw [show sdA ⟨⟨⟨sc, sr, sv, f, sb, st⟩, p⟩, fa, fc, pa, pc⟩ = #[.int .i64 sc, .string sr, .int .i64 sv, .slice fa f.length fc, .string sb, .int .i64 st, .slice pa p.length pc] from rfl] at CY ⊢
  simp only at HYZ HDD CY
  clear hy hyz hyp
  obtain ⟨V0, hV0⟩ : ∃ V, V = w.alloc (.cells #[.int .i64 sc, .string sr, .int .i64 sv, .slice fa f.length fc, .string sb, .int .i64 st, .slice pa p.length pc] 28) := ⟨_, rfl⟩
  have HB0 : Hid (Below w.heap.size w V0) := by
    show Below _ _ _
    rw [hV0]
    exact (Below.refl _ _).alloc (Nat.le_refl _) _
  have Z0 : Hid (V0.heap[w.heap.size]? = some (.cells #[.int .i64 sc, .string sr, .int .i64 sv, .slice fa f.length fc, .string sb, .int .i64 st, .slice pa p.length pc] 28 (0, 0))) := by
    show _ = _
    rw [hV0]
    exact heap_alloc_new w _
  have HS0 : Hid (V0.heap.size = w.heap.size + 1) := by
    show _ = _
    rw [hV0]; simp
  have C0 := Lib.hid (CY.out V0 HB0.out)
  obtain ⟨q0, q1, q2, q3, q4, q5, q6⟩ := cel7 Z0.out
  go_enter Tryd.func14, Tryd.ntmps14
  go_upto_region 1 with fail
  rw [← hV0]
  clear hV0
  go_wp2_with fail
  refine C0.out.mono ?_
  rintro e w1 ⟨⟨x1, y1a, y1b, y1c, y1d⟩, rfl, hx1, t1, _, _, hb1⟩
  simp only at hx1
  subst hx1
  rw [show sdA ⟨⟨⟨sc, sr, sv, f, sb, st⟩, p⟩, y1a, y1b, y1c, y1d⟩ = #[.int .i64 sc, .string sr, .int .i64 sv, .slice y1a f.length y1b, .string sb, .int .i64 st, .slice y1c p.length y1d] from rfl]
  clear q0 q1 q2 q3 q4 q5 q6 C0
  have Z1 := Lib.hid (zero_still hb1 Z0.out)
  have HB1 := Lib.hid (below_then HB0.out hb1)
  have T1 := Lib.hid t1
  have hs1 : w.heap.size + 1 ≤ w1.heap.size := by have := hb1.size; have := HS0.out; omega
  have HS1 := Lib.hid hs1
  clear hb1 t1 hs1
  go_wp2_with fail
  go_loopw [5, 13] (fun v i wr => ∃ (k : Nat) (X : List Sd), k ≤ L.length ∧ X.length ≤ 4 ∧ i = .int .i64 k ∧ Hid (OwnD wr (w.heap.size + 1) 28 v X) ∧ Hid (AllTy wr X) ∧ Hid (D = (X.map fun z => z.x) ++ (((L.map fun z => z.x).drop k).filter fun z => !pksB z.p p).take (4 - (X.map fun z => z.x).length)) ∧ Hid (wr.heap[w.heap.size]? = some (.cells #[.int .i64 sc, .string sr, .int .i64 sv, .slice fa f.length fc, .string sb, .int .i64 st, .slice pa p.length pc] 28 (0, 0))) ∧ Hid (Below w.heap.size w wr)) (fun _ i _ => L.length - (intOf i).toNat)
  case atStart =>
    refine ⟨0, [⟨⟨⟨sc, sr, sv, f, sb, st⟩, p⟩, y1a, y1b, y1c, y1d⟩], Nat.zero_le _, by simp, rfl, ?_, ?_, ?_, zero_more Z1.out, HB1.out.alloc HB1.out.size _⟩
    · exact OwnD.one w1 _ ⟨⟨⟨sc, sr, sv, f, sb, st⟩, p⟩, y1a, y1b, y1c, y1d⟩ HS1.out
    · intro z hz
      obtain rfl := List.mem_singleton.1 hz
      exact ⟨T1.out.below ((Below.refl _ _).alloc (Nat.le_refl _) _), HYZ.out⟩
    · exact HDD.out
  case round =>
    clear HDD T1 HS1 HB1 Z1 HB0 Z0 HS0
    obtain ⟨k, X, hk, hX4, rfl, HO, HT, hf, ZB, HB⟩ := hrel
    obtain ⟨A3, c3, hv3⟩ := HO.out.form
    subst hv3
    by_cases hlt : k < L.length
    · have hi0 : (0 : Int) ≤ (k : Int) := by omega
      have hi1 : (k : Int) < (L.length : Int) := by omega
      have hw := h.below HB.out
      obtain ⟨ad, rfl, _⟩ := h.at_ (by omega)
      obtain ⟨e0, e1, e2, e3, e4, e5, e6⟩ := hw.elem hlt
      have hz := hw.all _ (List.getElem_mem hlt)
      have hzz := hw.sz _ (List.getElem_mem hlt)
      have hzp := hp _ (List.getElem_mem hlt)
      have hst := add_nx (L.map fun z => z.x) p (X.map fun z => z.x) k (by simpa using hlt) D hf.out
      simp only [List.getElem_map, List.length_map] at hst
      generalize L[k] = z at hst e0 e1 e2 e3 e4 e5 e6 hz hzp hzz
      have HZ := Lib.hid hz
      have CZ := Lib.hid (fun W (hW : Below wr.heap.size wr W) => copied_any z W (hz.below hW) hzp.2 hzp.1)
      have CP := Lib.hid (fun W (hW : Below wr.heap.size wr W) => varS_any z.pa pa z.pc pc z.x.p p W (hz.below hW).k ((HY.out.below HB.out).below hW).k hzp.1)
      clear hw hz hf hzp
      obtain ⟨V, hV⟩ : ∃ V, V = wr.alloc (.cells (sdA z) 28) := ⟨_, rfl⟩
      have HBV : Hid (Below wr.heap.size wr V) := by
        show Below _ _ _
        rw [hV]
        exact (Below.refl _ _).alloc (Nat.le_refl _) _
      have ZV : Hid (V.heap[wr.heap.size]? = some (.cells (sdA z) 28 (0, 0))) := by
        show _ = _
        rw [hV]
        exact heap_alloc_new wr _
      have ZBV := Lib.hid (zero_still HBV.out ZB.out)
      have HSB : Hid (w.heap.size < wr.heap.size) := (Array.getElem?_eq_some_iff.1 ZB.out).1
      obtain ⟨zx, zfa, zfc, zpa, zpc⟩ := z
      obtain ⟨⟨zc, zr, zv, zf, zb, zt⟩, zp⟩ := zx
      have HSZ := Lib.hid hzz
      have HST := Lib.hid hst
      rw [show sdA ⟨⟨⟨zc, zr, zv, zf, zb, zt⟩, zp⟩, zfa, zfc, zpa, zpc⟩ = #[.int .i64 zc, .string zr, .int .i64 zv, .slice zfa zf.length zfc, .string zb, .int .i64 zt, .slice zpa zp.length zpc] from rfl] at hV ZV CZ
      simp only at e0 e1 e2 e3 e4 e5 e6 HST HSZ CP CZ
      clear hzz hst
      go_upto_region 5 with fail
      rw [← hV]
      clear hV e0 e1 e2 e3 e4 e5 e6
      obtain ⟨p0, p1, p2, p3, p4, p5, p6⟩ := cel7 ZV.out
      by_cases h4 : X.length < 4
      · have h4i : (X.length : Int) < 4 := by omega
        have b6 := (cel7 ZBV.out).2.2.2.2.2.2
        have C1 := Lib.hid (CP.out V HBV.out)
        cases hq : pksB zp p with
        | true =>
          have HN := Lib.hid (HST.out.2 (.inr hq))
          rw [hq] at C1
          clear HST hq
          go_wp2_with fail
          refine C1.out.mono ?_
          rintro e w2 ⟨rfl, hb2⟩
          clear C1 p0 p1 p2 p3 p4 p5 p6 b6
          have HW2 := Lib.hid (HBV.out.trans (hb2.mono HBV.out.size))
          have Z2 := Lib.hid (zero_still HW2.out ZB.out)
          clear hb2
          go_wp2_with fail
          go_roundw
          case rel => exact ⟨k + 1, X, by omega, hX4, by go_num, HO.out.below HW2.out, HT.out.below HW2.out, by show _ = _; rw [List.length_map]; exact HN.out, Z2.out, below_then HB.out HW2.out⟩
          case measure => simp [intOf]; omega
        | false =>
          have HN := Lib.hid (HST.out.1 h4 hq)
          rw [hq] at C1
          clear HST hq
          go_wp2_with fail
          refine C1.out.mono ?_
          rintro e w2 ⟨rfl, hb2⟩
          clear C1 p0 p1 p2 p3 p4 p5 p6 b6
          have HW2 := Lib.hid (HBV.out.trans (hb2.mono HBV.out.size))
          have C2 := Lib.hid (CZ.out w2 HW2.out)
          obtain ⟨p0, p1, p2, p3, p4, p5, p6⟩ := cel7 (zero_still hb2 ZV.out)
          clear hb2
          go_wp2_with fail
          refine C2.out.mono ?_
          rintro e w3 ⟨⟨x3, ya, yb, yc, yd⟩, rfl, hx3, t3, _, _, hb3⟩
          simp only at hx3
          subst hx3
          rw [show sdA ⟨⟨⟨zc, zr, zv, zf, zb, zt⟩, zp⟩, ya, yb, yc, yd⟩ = #[.int .i64 zc, .string zr, .int .i64 zv, .slice ya zf.length yb, .string zb, .int .i64 zt, .slice yc zp.length yd] from rfl]
          clear C2 p0 p1 p2 p3 p4 p5 p6
          have HW3 := Lib.hid (HW2.out.trans (hb3.mono HW2.out.size))
          have Z3 := Lib.hid (zero_still HW3.out ZB.out)
          have HO3 := Lib.hid (HO.out.below HW3.out)
          have HT3 := Lib.hid (HT.out.below HW3.out)
          have T3 := Lib.hid t3
          have HS3 : Hid (w.heap.size + 1 ≤ w3.heap.size) := by have h1 := HSB.out; have h2 := HW3.out.size; show _ ≤ _; omega
          clear hb3 t3
          have hs3 := HS3.out
          go_wp2_with (at_builtin; refine wpList_append_sldG rfl _ _ _ rfl (w.heap.size + 1) 28 Tryd.underlying22 (by kernel_rfl) _ rfl X (HO3.out.alloc _) ⟨w3.heap.size, 0, none⟩ _ _ rfl [⟨⟨⟨zc, zr, zv, zf, zb, zt⟩, zp⟩, ya, yb, yc, yd⟩] rfl (fun j u hu => cell_of_own (OwnD.one w3 28 ⟨⟨⟨zc, zr, zv, zf, zb, zt⟩, zp⟩, ya, yb, yc, yd⟩ (Nat.le_refl _)) j u hu) (by simp; omega) (by simp; omega) ?_; intro v1 w4 ho4 hg4)
          have HBA : Hid (Below w3.heap.size w3 (w3.alloc (.cells (sdA ⟨⟨⟨zc, zr, zv, zf, zb, zt⟩, zp⟩, ya, yb, yc, yd⟩) 28))) := (Below.refl _ _).alloc (Nat.le_refl _) _
          have hb4 : Below (w.heap.size + 1) (w3.alloc (.cells (sdA ⟨⟨⟨zc, zr, zv, zf, zb, zt⟩, zp⟩, ya, yb, yc, yd⟩) 28)) w4 := (Below.refl _ _).grown hg4.out (Nat.le_trans HS3.out HBA.out.size) (fun k hk => ((HO3.out.alloc (.cells (sdA ⟨⟨⟨zc, zr, zv, zf, zb, zt⟩, zp⟩, ya, yb, yc, yd⟩) 28)).lt k hk).1)
          have HB4 := Lib.hid (((HB.out.trans (HW3.out.mono HB.out.size)).trans (HBA.out.mono (by omega))).trans (hb4.mono (by omega)))
          have Z4 := Lib.hid ((hb4.block w.heap.size (by omega)).trans (zero_still HBA.out Z3.out))
          have HT4 := Lib.hid (((HT3.out.below HBA.out).snoc (T3.out.below HBA.out) HSZ.out).grown (HO3.out.alloc (.cells (sdA ⟨⟨⟨zc, zr, zv, zf, zb, zt⟩, zp⟩, ya, yb, yc, yd⟩) 28)) (by kernel_rfl) (by kernel_rfl) hg4.out)
          go_roundw
          case rel => exact ⟨k + 1, X ++ [(⟨⟨⟨zc, zr, zv, zf, zb, zt⟩, zp⟩, ya, yb, yc, yd⟩ : Sd)], by omega, by rw [List.length_append, List.length_singleton]; omega, by go_num, ho4.out, HT4.out, by show _ = _; rw [List.map_append, List.map_cons, List.map_nil, List.length_append, List.length_map]; simpa using HN.out, Z4.out, HB4.out⟩
          case measure => simp [intOf]; omega
      · have h4i : ¬ (X.length : Int) < 4 := by omega
        have HN := Lib.hid (HST.out.2 (.inl (by omega)))
        have HW2 := HBV
        have Z2 := Lib.hid (zero_still HW2.out ZB.out)
        clear HST p0 p1 p2 p3 p4 p5 p6
        go_wp2_with fail
        go_roundw
        case rel => exact ⟨k + 1, X, by omega, hX4, by go_num, HO.out.below HW2.out, HT.out.below HW2.out, by show _ = _; rw [List.length_map]; exact HN.out, Z2.out, below_then HB.out HW2.out⟩
        case measure => simp [intOf]; omega
    · have hi1 : ¬ (k : Int) < (L.length : Int) := by omega
      have HN : Hid (D = X.map fun z => z.x) := by
        show _ = _
        rw [hf.out, List.drop_eq_nil_of_le (by rw [List.length_map]; omega)]; simp
      clear hf
      go_wp2_with fail
      go_ret
      rw [HN.out]
      exact sd_ends HO.out HT.out HB.out

end Go.Proofs.YthhlcecojeaalaaDoor
end
