/-
  Texts that the laws of this seat lean on, one behind the other.
-/
import Derived.Test.YthhlcecojeaalaaDoorMrgAG
import Derived.Test.YthhlcecojeaalaaDoorMrgK
import Derived.Test.YthhlcecojeaalaaDoorMrgI
import Derived.BigQuiet
set_option linter.unusedSimpArgs false
set_option linter.unusedVariables false
/-
  Contract of the reference's Put (layer 20); a store into a row of stored replies.
-/
section
namespace Go.Proofs.YthhlcecojeaalaaDoor
open Go.RowKit
set_option linter.unusedSimpArgs false

theorem sdR_flat (X : List Sd) : sdR X = (X.map sdC).flatten := by unfold sdR; rw [List.flatMap_def]
theorem sdR_set {X : List Sd} {k : Nat} (hk : k < X.length) (y : Sd) (rest : List Value) : ((sdR X ++ rest).take (k * 7) ++ sdC y ++ (sdR X ++ rest).drop (k * 7 + (sdC y).length)) = sdR (X.set k y) ++ rest := by
  have hl := sdR_len X
  have hle : (k + 1) * 7 ≤ X.length * 7 := Nat.mul_le_mul_right _ hk
  have hf := flat_set (m := 7) (L := X.map sdC) (k := k) (vs := sdC y) (fun l hl => by obtain ⟨z, _, rfl⟩ := List.mem_map.1 hl; rfl) rfl (by rw [List.length_map]; exact hk)
  rw [← sdR_flat] at hf
  rw [sdR_flat (X.set k y), List.map_set, ← hf, List.take_append_of_le_length (by rw [hl]; omega), List.drop_append_of_le_length (by rw [hl, sdC_len]; omega), List.append_assoc, List.append_assoc, List.append_assoc]
theorem wpList_storeD {P : Program} {ops : Array Oper} {rest : List Oper} {o : Oper} {a : Act} {w : World} {Q : Exit → Act → World → Prop} (hgd : o.guard = none) (ty : TypeId) (x y : Operand) (ho : o.op = .store ty x y) (ad : Addr) (hx : a.eval x = .pointer (some ad))
    (g e k n c base : Nat) (had : ad = ⟨g, k * 7, none⟩) (z : Sd) (hy : a.eval y = .agg (sdA z)) (hi : (P.info? ty).map (·.size) = some 7) (X : List Sd) (hown : OwnD w base e (.slice (some ⟨g, 0, none⟩) n c) X) (hk : k < X.length) (w0 : World) (hb : Below base w0 w)
    (h : ∀ w', Hid (OwnD w' base e (.slice (some ⟨g, 0, none⟩) n c) (X.set k z)) → Hid (Below base w0 w') → wpList P ops Q rest (a.put o.dst undef) w') : wpList P ops Q (o :: rest) a w := by
  rcases hown.2 with ⟨q, _⟩ | ⟨g', cap, cur, q, hbg, hg, hnc, hcm, hcs, htk⟩
  · cases q
  · simp only [Value.slice.injEq, Option.some.injEq, Addr.mk.injEq, and_true, true_and] at q
    obtain ⟨rfl, rfl, rfl⟩ := q
    have hcur : cur.toList = sdR X ++ cur.toList.drop (X.length * 7) := by rw [← htk, List.take_append_drop]
    have hle : (k + 1) * 7 ≤ X.length * 7 := Nat.mul_le_mul_right _ hk
    have hle2 : X.length * 7 ≤ c * 7 := Nat.mul_le_mul_right _ hnc
    have hr := run_storeCells_at (P := P) g (k * 7) e (sdC z) 0 cur w hg (by rw [sdC_len, hcs]; omega) (sdC_ones z)
    rw [Nat.add_zero, hcur, sdR_set hk] at hr
    subst had
    refine wpList_plain hgd fun K' hK' => ?_
    unfold Oper.wp execOp
    cases hq : P.info? ty with
    | none => simp [hq] at hi
    | some i =>
      have hs : i.size = 7 := by simpa [hq] using hi
      have hsv : (storeVar ty ⟨g, k * 7, none⟩ (.agg (sdA z))).run P w = .ok () (w.setRow g (sdR (X.set k z) ++ cur.toList.drop (X.length * 7)).toArray) := by
        have e1 : (Value.agg (sdA z)).cells.size = 7 := rfl
        have e2 : (Value.agg (sdA z)).cells.toList = sdC z := rfl
        simp [storeVar, sizeOf, typeInfo, hq, e1, e2, hs, hr]
      simp only [ho, hx, hy, Instr.storeAt, Instr.sureAddr, Sem.run_bind, Sem.run_pure, Result.andThen_ok, hsv]
      refine hK' _ _ (h _ ⟨by rw [List.length_set, sdR_len, List.length_set], .inr ⟨g, c, _, by rw [List.length_set], hbg, setRow_heap w g cur _ e _ hg, by rw [List.length_set]; exact hnc, hcm, ?_, ?_⟩⟩ (below_setRow hb hbg _))
      · have hcl : cur.toList.length = c * 7 := by rw [Array.length_toList, hcs]
        rw [List.size_toArray, List.length_append, sdR_len, List.length_set, List.length_drop, hcl]; omega
      · rw [List.length_set, List.take_append_of_le_length (by rw [sdR_len, List.length_set]; exact Nat.le_refl _), List.take_of_length_le (by rw [sdR_len, List.length_set]; exact Nat.le_refl _)]

theorem ownD_none {w : World} {base e n c : Nat} {X : List Sd} (h : OwnD w base e (.slice none n c) X) (hX : 0 < X.length) : False := by
  rcases h.2 with ⟨_, h0⟩ | ⟨g, cap, cur, q, _⟩
  · omega
  · cases q
theorem ownD_addr {w : World} {base e n c : Nat} {ad : Addr} {X : List Sd} (h : OwnD w base e (.slice (some ad) n c) X) : ∃ g, ad = ⟨g, 0, none⟩ := by
  rcases h.2 with ⟨q, _⟩ | ⟨g, cap, cur, q, _⟩
  · cases q
  · simp only [Value.slice.injEq, Option.some.injEq] at q
    exact ⟨g, q.1⟩
theorem OwnD.empty (w : World) (t : TypeId) {base : Nat} (hb : base ≤ w.heap.size) : OwnD (w.alloc (.cells #[] t)) base t (.slice (some ⟨w.heap.size, 0, none⟩) 0 0) [] :=
  ⟨rfl, .inr ⟨w.heap.size, 0, _, rfl, hb, heap_alloc_new w _, Nat.le_refl _, Nat.zero_le _, rfl, rfl⟩⟩
theorem OwnD.emptyAt (w : World) (t : TypeId) {base g : Nat} (hb : base ≤ w.heap.size) (hg : w.heap.size = g) : OwnD (w.alloc (.cells #[] t)) base t (.slice (some ⟨g, 0, none⟩) 0 0) [] := by
  subst hg
  exact OwnD.empty w t hb

set_option maxHeartbeats 8000000 in
set_option maxRecDepth 100000 in
theorem r_vput (A : Option Addr) (n c : Nat) (L : List Sd) (k : Int) (y : Sd) (w : World) (h : SlD w A n c L) (hy : SdAt w y) (hn : n ≤ 100000000) (hyz : y.x.s.r.size ≤ maxLen ∧ y.x.s.b.size ≤ maxLen) :
    Calls Tryd.prog 17 #[.slice A n c, .int .i64 k, .agg (sdA y)] w (IsSd w (putV (L.map fun z => z.x) k y.x)) := by
  have hlen := h.len
  subst hlen
  have HY := Lib.hid hy
  have HYZ := Lib.hid hyz
  have HH := Lib.hid h
  have hA : A = none → L.length = 0 ∧ c = 0 := fun e => by
    subst e
    have := h.none_eq
    exact ⟨this.1, this.2.1⟩
  have hY : ∀ W, Below w.heap.size w W → ∀ ad, A = some ad → ∀ j u, (sdR L)[j]? = some u → W.cell? (ad.add j) = some u := fun W hb ad e j u hu => by
    subst e
    have hj := (List.getElem?_eq_some_iff.1 hu).1
    rw [sdR_len] at hj
    obtain ⟨ad', e', hc⟩ := h.at_ (by omega)
    cases e'
    exact cell_kept hb (hc j u hu)
  have HA := Lib.hid hA
  have HYC := Lib.hid hY
  clear hA hY hy hyz
  have HB0 : Hid (Below w.heap.size w (w.alloc (.cells (sdA y) 28))) := (Below.refl _ _).alloc (Nat.le_refl _) _
  have Z0 : Hid ((w.alloc (.cells (sdA y) 28)).heap[w.heap.size]? = some (.cells (sdA y) 28 (0, 0))) := heap_alloc_new w _
  have fin : ∀ (W : World) v X, OwnD W (w.heap.size + 1) 28 v X → (∀ z ∈ X, z = y ∨ z ∈ L) → Below w.heap.size w W → (X.map fun z => z.x) = putV (L.map fun z => z.x) k y.x → IsSd w (putV (L.map fun z => z.x) k y.x) (.returned v) W := fun W v X hO hX hB hE => by
    obtain ⟨A5, c5, rfl, hS⟩ := hO.sld (fun z hz => by
      rcases hX z hz with rfl | hz
      · exact HY.out.below hB
      · exact (HH.out.all z hz).below hB) (fun z hz => by
      rcases hX z hz with rfl | hz
      · exact HYZ.out
      · exact HH.out.sz z hz)
    exact ⟨_, _, X, rfl, hS, hE, hB⟩
  have FIN := Lib.hid fin
  have HYO : Hid (sdA y = sdA y) := rfl
  obtain ⟨⟨⟨sc, sr, sv, f, sb, st⟩, p⟩, fa, fc, pa, pc⟩ := y
  unfold sdA stC at Z0 HB0 ⊢
  simp only at Z0 HB0 ⊢
  obtain ⟨q0, q1, q2, q3, q4, q5, q6⟩ := cel7 Z0.out
  clear fin h HH HY HYZ
  by_cases hk : 0 ≤ k ∧ k < (L.length : Int)
  · obtain ⟨hk0, hk1⟩ := hk
    obtain ⟨j, rfl⟩ : ∃ j : Nat, k = (j : Int) := ⟨k.toNat, by omega⟩
    have hj : j < L.length := by omega
    have HE : Hid (((L.set j ⟨⟨⟨sc, sr, sv, f, sb, st⟩, p⟩, fa, fc, pa, pc⟩).map fun z => z.x) = putV (L.map fun z => z.x) (j : Int) ⟨⟨sc, sr, sv, f, sb, st⟩, p⟩) := by
      show _ = _
      unfold putV
      rw [List.length_map, if_pos ⟨by omega, by omega⟩, List.map_set, Int.toNat_natCast]
    have HM : Hid (∀ z ∈ L.set j ⟨⟨⟨sc, sr, sv, f, sb, st⟩, p⟩, fa, fc, pa, pc⟩, z = ⟨⟨⟨sc, sr, sv, f, sb, st⟩, p⟩, fa, fc, pa, pc⟩ ∨ z ∈ L) := fun z hz => by
      rcases List.mem_or_eq_of_mem_set hz with hz | hz
      · exact .inr hz
      · exact .inl hz
    go_enter Tryd.func17, Tryd.ntmps17
    go_wp2_with (first
      | (at_builtin; refine wpList_append_sld rfl _ _ _ rfl (w.heap.size + 1) 28 Tryd.underlying22 (by kernel_rfl) _ rfl [] (OwnD.emptyAt (w.alloc _) 28 (by simp) (by simp)) A L.length c rfl L rfl HA.out (HYC.out _ (HB0.out.alloc HB0.out.size _)) (by simpa using hn) (by simp) _ (Below.refl _ _) ?_; intro v1 w1 ho1 hb1 hz1 hb2; have ZB := Lib.hid ((hb1.block w.heap.size (by omega)).trans (zero_more (o' := .cells #[] 28) Z0.out)); have HBB := Lib.hid ((HB0.out.alloc HB0.out.size (.cells #[] 28)).trans (hb1.mono (by omega))); obtain ⟨A5, c5, hv5⟩ := ho1.out.form; subst hv5; have hL5 : A5 ≠ none := (fun e => by subst e; exact (ownD_none ho1.out (by rw [List.nil_append]; omega)).elim); obtain ⟨ad5, rfl⟩ := Option.ne_none_iff_exists'.1 hL5; obtain ⟨g5, rfl⟩ := ownD_addr ho1.out; obtain ⟨r0, r1, r2, r3, r4, r5, r6⟩ := cel7 ZB.out; clear hL5)
      | (refine wpList_storeD (by rfl) _ _ _ (by rfl) _ (by rfl) g5 28 j _ c5 (w.heap.size + 1) (by first | rfl | exact addr_add _ _ _) ⟨⟨⟨sc, sr, sv, f, sb, st⟩, p⟩, fa, fc, pa, pc⟩ (by rfl) (by kernel_rfl) ([] ++ L) ho1.out (by simpa using hj) _ (Below.refl _ _) ?_; intro w2 ho2 hb3))
    go_ret
    exact FIN.out _ _ _ ho2.out (by rw [List.nil_append]; exact HM.out) (HBB.out.trans (hb3.out.mono (by omega))) (by rw [List.nil_append]; exact HE.out)
  · have HE : Hid ((L.map fun z => z.x) = putV (L.map fun z => z.x) k ⟨⟨sc, sr, sv, f, sb, st⟩, p⟩) := by
      show _ = _
      unfold putV
      rw [List.length_map, if_neg hk]
    by_cases hk0 : 0 ≤ k
    all_goals
      (try have hk1 : ¬ k < (L.length : Int) := fun q => hk ⟨hk0, q⟩)
      clear hk
      go_enter Tryd.func17, Tryd.ntmps17
      go_wp2_with (at_builtin; refine wpList_append_sld rfl _ _ _ rfl (w.heap.size + 1) 28 Tryd.underlying22 (by kernel_rfl) _ rfl [] (OwnD.emptyAt (w.alloc _) 28 (by simp) (by simp)) A L.length c rfl L rfl HA.out (HYC.out _ (HB0.out.alloc HB0.out.size _)) (by simpa using hn) (by simp) _ (Below.refl _ _) ?_; intro v1 w1 ho1 hb1 hz1 hb2)
      go_ret
      exact FIN.out _ _ _ ho1.out (fun z hz => .inr (by simpa using hz)) ((HB0.out.alloc HB0.out.size (.cells #[] 28)).trans (hb1.mono (by omega))) (by rw [List.nil_append]; exact HE.out)

end Go.Proofs.YthhlcecojeaalaaDoor
end

/-
  Contracts of the reference's printer (layer 20): W.num, W.text.
-/
section
namespace Go.Proofs.YthhlcecojeaalaaDoor
open Go.RowKit
set_option linter.unusedSimpArgs false

/-- Block G is a printer: bytes that read as x.1, and the code x.2. -/
def IsW (w : World) (G : Nat) (x : WS) : Prop :=
  ∃ A n c, w.heap[G]? = some (.cells #[.slice A n c, .int .i64 x.2] 73 (0, 0)) ∧ Sl8 w A n c x.1
def Wrote (G : Nat) (x : WS) (w : World) (e : Ending) (w' : World) : Prop := e = .returned (.tuple #[]) ∧ IsW w' G x ∧ ButB G w w'
theorem IsW.lt {w : World} {G : Nat} {x : WS} (h : IsW w G x) : G < w.heap.size := by
  obtain ⟨A, n, c, hg, _⟩ := h
  exact (Array.getElem?_eq_some_iff.1 hg).1
theorem IsW.below {w w' : World} {G : Nat} {x : WS} (h : IsW w G x) (hb : Below w.heap.size w w') : IsW w' G x := by
  obtain ⟨A, n, c, hg, hs⟩ := h
  exact ⟨A, n, c, (hb.block G (Array.getElem?_eq_some_iff.1 hg).1).trans hg, hs.below hb⟩
theorem Sl8.butW {w w' : World} {R : Nat} {A B : Option Addr} {n c m d t : Nat} {z : Int} {l : List UInt8} (h : Sl8 w A n c l) (hg : w.heap[R]? = some (.cells #[.slice B m d, .int .i64 z] t (0, 0))) (hb : ButB R w w') : Sl8 w' A n c l := by
  refine ⟨h.len, h.cap, h.cm, h.nil, fun hn => ?_⟩
  obtain ⟨ad, e, hc⟩ := h.at_ hn
  refine ⟨ad, e, fun j x hx => ?_⟩
  have h1 := hc j x hx
  have hlt := World.block_lt_of_cell? w _ h1
  by_cases hR : (ad.add j).block = R
  · exfalso
    simp only [World.cell?, hR, hg] at h1
    split at h1
    · cases h1
    · rcases hk : (ad.add j).off with _ | _ | k
      · rw [hk] at h1
        simp [byV] at h1
      · rw [hk] at h1
        simp [byV] at h1
      · rw [hk] at h1
        simp at h1
  · exact (World.cell?_of_block (w := w) (hb.block _ hlt hR)).trans h1
theorem w_cells {w : World} {G t : Nat} {u v : Value} (hg : w.heap[G]? = some (.cells #[u, v] t (0, 0))) : w.cell? ⟨G, 0, none⟩ = some u ∧ w.cell? ⟨G, 1, none⟩ = some v ∧ w.frozen? ⟨G, 0, none⟩ = false ∧ w.frozen? ⟨G, 1, none⟩ = false :=
  ⟨by rw [cell_of_row _ _ _ _ _ _ hg]; rfl, by rw [cell_of_row _ _ _ _ _ _ hg]; rfl, by simp [World.frozen?, hg], by simp [World.frozen?, hg]⟩
theorem w_set0 {w : World} {G t : Nat} {u v : Value} (hg : w.heap[G]? = some (.cells #[u, v] t (0, 0))) (u' : Value) : (w.setCell ⟨G, 0, none⟩ u').heap[G]? = some (.cells #[u', v] t (0, 0)) := by
  simp [World.setCell, Array.getElem?_modify, hg]
theorem w_set1 {w : World} {G t : Nat} {u v : Value} (hg : w.heap[G]? = some (.cells #[u, v] t (0, 0))) (v' : Value) : (w.setCell ⟨G, 1, none⟩ v').heap[G]? = some (.cells #[u, v'] t (0, 0)) := by
  simp [World.setCell, Array.getElem?_modify, hg]

set_option maxHeartbeats 4000000 in
set_option maxRecDepth 100000 in
theorem rw_num (G : Nat) (l : List UInt8) (E n lo hi er kq : Int) (k : Nat) (HK : Hid (kq = (k : Int))) (w : World) (h : IsW w G (l, E)) (hl : l.length ≤ 10000000) (hlo : -9223372036854775808 ≤ lo) (hhi : hi ≤ 9223372036854775807) (hk0 : 0 ≤ kq) (hk1 : kq ≤ 7) (her : (er == 0) = false) :
    Calls Tryd.prog 36 #[.pointer (some ⟨G, 0, none⟩), .int .i64 n, .int .i64 kq, .int .i64 lo, .int .i64 hi, .int .i64 er] w (Wrote G (numW k lo hi er n (l, E)) w) := by
  obtain ⟨A, m, c, hg, hs⟩ := h
  obtain ⟨c0, c1, f0, f1⟩ := w_cells hg
  have hlt := (Array.getElem?_eq_some_iff.1 hg).1
  have HG := Lib.hid (And.intro hg (And.intro hs hlt))
  have HL := Lib.hid hl
  have HN := Lib.hid (And.intro hlo (And.intro hhi (And.intro hk0 hk1)))
  clear hg hs hl hlo hhi hk0 hk1 hlt
  by_cases hE : E = 0
  · subst hE
    by_cases hr : n < lo ∨ hi < n
    · have HW := Lib.hid (show numW k lo hi er n (l, 0) = (l, er) by unfold numW; rw [if_neg (by simp), if_pos hr])
      by_cases h1 : n < lo
      · clear hr
        go_enter Tryd.func36, Tryd.ntmps36
        go_wp2_with fail
        go_end0
        rw [HW.out]
        exact ⟨rfl, ⟨A, m, c, w_set1 HG.out.1 _, HG.out.2.1.butW HG.out.1 ((ButB.refl G w).setCell 1 _)⟩, (ButB.refl G w).setCell 1 _⟩
      · have h2 : hi < n := by omega
        clear hr
        go_enter Tryd.func36, Tryd.ntmps36
        go_wp2_with fail
        go_end0
        rw [HW.out]
        exact ⟨rfl, ⟨A, m, c, w_set1 HG.out.1 _, HG.out.2.1.butW HG.out.1 ((ButB.refl G w).setCell 1 _)⟩, (ButB.refl G w).setCell 1 _⟩
    · have HW := Lib.hid (show numW k lo hi er n (l, 0) = (wPutL l n k, 0) by unfold numW; rw [if_neg (by simp), if_neg hr])
      have h1 : ¬ n < lo := fun q => hr (.inl q)
      have h2 : ¬ hi < n := fun q => hr (.inr q)
      clear hr
      go_enter Tryd.func36, Tryd.ntmps36
      go_wp2_with fail
      refine (wR_put A m c l n kq _ HG.out.2.1 HL.out (by have := HN.out.1; omega) (by have := HN.out.2.1; omega) (by have := HN.out.2.2.1; omega) (by have := HN.out.2.2.2; omega)).mono ?_
      rintro e w1 ⟨A', m', c', he, hs1, hb⟩
      subst he
      have g1 := (hb.block G HG.out.2.2).trans HG.out.1
      obtain ⟨d0, d1, e0, e1⟩ := w_cells g1
      have HG1 := Lib.hid (And.intro g1 (And.intro hs1 hb))
      clear g1 hs1 hb c0 c1 f0 f1
      go_wp2_with fail
      go_end0
      rw [HW.out]
      have hk := HK.out
      subst hk
      have hb1 : ButB G w1 (w1.setCell ⟨G, 0, none⟩ (.slice A' m' c')) := (ButB.refl G w1).setCell 0 _
      refine ⟨rfl, ⟨A', m', c', ?_, HG1.out.2.1.butW HG1.out.1 hb1⟩, (ButB.of_below HG1.out.2.2).trans hb1⟩
      rw [w_set0 HG1.out.1]
  · have hE' : (E == 0) = false := by simpa using hE
    have HW := Lib.hid (show numW k lo hi er n (l, E) = (l, E) by unfold numW; rw [if_pos (by simpa using hE)])
    go_enter Tryd.func36, Tryd.ntmps36
    go_wp2_with fail
    go_end0
    rw [HW.out]
    exact ⟨rfl, ⟨A, m, c, HG.out.1, HG.out.2.1⟩, ButB.refl G w⟩

set_option maxHeartbeats 4000000 in
set_option maxRecDepth 100000 in
theorem rw_text (G : Nat) (l : List UInt8) (E : Int) (s : ByteArray) (w : World) (h : IsW w G (l, E)) (hl : l.length ≤ 10000000) (hs : s.size ≤ maxLen) :
    Calls Tryd.prog 37 #[.pointer (some ⟨G, 0, none⟩), .string s] w (Wrote G (txtW s (l, E)) w) := by
  obtain ⟨A, m, c, hg, hq⟩ := h
  obtain ⟨c0, c1, f0, f1⟩ := w_cells hg
  have hlt := (Array.getElem?_eq_some_iff.1 hg).1
  have HG := Lib.hid (And.intro hg (And.intro hq hlt))
  have HL := Lib.hid (And.intro hl hs)
  clear hg hq hl hlt hs
  by_cases hE : E = 0
  · subst hE
    have HW := Lib.hid (show txtW s (l, 0) = (ptL l s.data.toList, ptE s.data.toList) by unfold txtW; rw [if_neg (by simp)])
    go_enter Tryd.func37, Tryd.ntmps37
    go_wp2_with fail
    refine (r_puttext A m c l s _ HG.out.2.1 HL.out.1 HL.out.2).mono ?_
    rintro e w1 ⟨A', m', c', he, hs1, hb⟩
    obtain ⟨z, hz⟩ : ∃ z, z = ptE s.data.toList := ⟨_, rfl⟩
    rw [← hz] at he
    subst he
    have HZ := Lib.hid hz
    clear hz
    have g1 := (hb.block G HG.out.2.2).trans HG.out.1
    obtain ⟨d0, d1, e0, e1⟩ := w_cells g1
    have HG1 := Lib.hid (And.intro g1 (And.intro hs1 hb))
    clear g1 hs1 hb c0 c1 f0 f1
    go_wp2_with fail
    go_end0
    rw [HW.out, ← HZ.out]
    have g2 := w_set1 (w_set0 HG1.out.1 (.slice A' m' c')) (.int .i64 z)
    have hb1 : ButB G w1 ((w1.setCell ⟨G, 0, none⟩ (.slice A' m' c')).setCell ⟨G, 1, none⟩ (.int .i64 z)) := ((ButB.refl G w1).setCell 0 _).setCell 1 _
    exact ⟨rfl, ⟨A', m', c', g2, HG1.out.2.1.butW HG1.out.1 hb1⟩, (ButB.of_below HG1.out.2.2).trans hb1⟩
  · have hE' : (E == 0) = false := by simpa using hE
    have HW := Lib.hid (show txtW s (l, E) = (l, E) by unfold txtW; rw [if_pos (by simpa using hE)])
    go_enter Tryd.func37, Tryd.ntmps37
    go_wp2_with fail
    go_end0
    rw [HW.out]
    exact ⟨rfl, ⟨A, m, c, HG.out.1, HG.out.2.1⟩, ButB.refl G w⟩

end Go.Proofs.YthhlcecojeaalaaDoor
end

/-
  Contracts of the reference's reader (layer 20): R.num, R.text.
-/
section
namespace Go.Proofs.YthhlcecojeaalaaDoor
open Go.RowKit
set_option linter.unusedSimpArgs false

/-- A reader's place and code. -/
abbrev RS := Nat × Int
def numR (k : Nat) (lo hi : Int) (l : List UInt8) (x : RS) : Int × RS :=
  if x.2 ≠ 0 then (0, x) else match numP k lo hi (l.drop x.1) with
  | .ok (v, _) => (v, (x.1 + k, 0))
  | .error e => (0, (x.1, e))
def txtR (l : List UInt8) (x : RS) : ByteArray × RS :=
  if x.2 ≠ 0 then (mkS [], x) else match txtP (l.drop x.1) with
  | .ok (s, _) => (s, (x.1 + textK (l.drop x.1), 0))
  | .error e => (mkS [], (x.1, e))
/-- Block R is a reader of l at place x.1, of code x.2. -/
def IsR (w : World) (R : Nat) (A : Option Addr) (n c : Nat) (l : List UInt8) (x : RS) : Prop :=
  w.heap[R]? = some (.cells #[.slice A n c, .int .i64 x.1, .int .i64 x.2] 83 (0, 0)) ∧ Sl8 w A n c l ∧ x.1 ≤ l.length
def Took (R : Nat) (A : Option Addr) (n c : Nat) (l : List UInt8) (v : Value) (x : RS) (w : World) (e : Ending) (w' : World) : Prop := e = .returned v ∧ IsR w' R A n c l x ∧ ButB R w w'
theorem IsR.lt {w : World} {R : Nat} {A : Option Addr} {n c : Nat} {l : List UInt8} {x : RS} (h : IsR w R A n c l x) : R < w.heap.size := (Array.getElem?_eq_some_iff.1 h.1).1
theorem IsR.below {w w' : World} {R : Nat} {A : Option Addr} {n c : Nat} {l : List UInt8} {x : RS} (h : IsR w R A n c l x) (hb : Below w.heap.size w w') : IsR w' R A n c l x :=
  ⟨(hb.block R h.lt).trans h.1, h.2.1.below hb, h.2.2⟩
theorem Sl8.butR {w w' : World} {R : Nat} {A B : Option Addr} {n c m d t : Nat} {y z : Int} {l : List UInt8} (h : Sl8 w A n c l) (hg : w.heap[R]? = some (.cells #[.slice B m d, .int .i64 y, .int .i64 z] t (0, 0))) (hb : ButB R w w') : Sl8 w' A n c l := by
  refine ⟨h.len, h.cap, h.cm, h.nil, fun hn => ?_⟩
  obtain ⟨ad, e, hc⟩ := h.at_ hn
  refine ⟨ad, e, fun j x hx => ?_⟩
  have h1 := hc j x hx
  have hlt := World.block_lt_of_cell? w _ h1
  by_cases hR : (ad.add j).block = R
  · exfalso
    simp only [World.cell?, hR, hg] at h1
    split at h1
    · cases h1
    · rcases hk : (ad.add j).off with _ | _ | _ | k
      · rw [hk] at h1
        simp [byV] at h1
      · rw [hk] at h1
        simp [byV] at h1
      · rw [hk] at h1
        simp [byV] at h1
      · rw [hk] at h1
        simp at h1
  · exact (World.cell?_of_block (w := w) (hb.block _ hlt hR)).trans h1
theorem r_cells {w : World} {G t : Nat} {u v z : Value} (hg : w.heap[G]? = some (.cells #[u, v, z] t (0, 0))) : w.cell? ⟨G, 0, none⟩ = some u ∧ w.cell? ⟨G, 1, none⟩ = some v ∧ w.cell? ⟨G, 2, none⟩ = some z ∧ w.frozen? ⟨G, 1, none⟩ = false ∧ w.frozen? ⟨G, 2, none⟩ = false :=
  ⟨by rw [cell_of_row _ _ _ _ _ _ hg]; rfl, by rw [cell_of_row _ _ _ _ _ _ hg]; rfl, by rw [cell_of_row _ _ _ _ _ _ hg]; rfl, by simp [World.frozen?, hg], by simp [World.frozen?, hg]⟩
theorem r_set1 {w : World} {G t : Nat} {u v z : Value} (hg : w.heap[G]? = some (.cells #[u, v, z] t (0, 0))) (v' : Value) : (w.setCell ⟨G, 1, none⟩ v').heap[G]? = some (.cells #[u, v', z] t (0, 0)) := by
  simp [World.setCell, Array.getElem?_modify, hg]
theorem r_set2 {w : World} {G t : Nat} {u v z : Value} (hg : w.heap[G]? = some (.cells #[u, v, z] t (0, 0))) (z' : Value) : (w.setCell ⟨G, 2, none⟩ z').heap[G]? = some (.cells #[u, v, z'] t (0, 0)) := by
  simp [World.setCell, Array.getElem?_modify, hg]
theorem quiet_mine {P : Program} {f : FuncId} {args : Array Value} {w : World} {n : Nat} {v : Value} (h : Calls P f args (w.drewN n) fun e w' => e = .returned v ∧ w.drewN n = w') : Calls P f args (w.drewN n) fun e w'' => e = .returned v ∧ ∃ m, w'' = w.drewN m :=
  h.mono fun _ _ q => ⟨q.1, n, q.2.symm⟩
theorem drawn_but (R : Nat) (w : World) (n : Nat) : ButB R w (w.drewN n) := ⟨rfl, rfl, rfl, Nat.le_refl _, fun _ _ _ => rfl⟩

set_option maxHeartbeats 4000000 in
set_option maxRecDepth 100000 in
theorem rr_num (R : Nat) (l : List UInt8) (I : Nat) (E lo hi kq : Int) (k : Nat) (HK : Hid (kq = (k : Int))) (w : World) (A : Option Addr) (m c : Nat) (h : IsR w R A m c l (I, E)) (hl : l.length ≤ 1000000) (hk0 : 0 ≤ kq) (hk1 : kq ≤ 7) :
    Calls Tryd.prog 41 #[.pointer (some ⟨R, 0, none⟩), .int .i64 kq, .int .i64 lo, .int .i64 hi] w (Took R A m c l (.int .i64 (numR k lo hi l (I, E)).1) (numR k lo hi l (I, E)).2 w) := by
  obtain ⟨hg, hs, hI⟩ := h
  simp only at hg hI
  obtain ⟨d0, d1, d2, f1, f2⟩ := r_cells hg
  have hlt := (Array.getElem?_eq_some_iff.1 hg).1
  have HG := Lib.hid (And.intro hg (And.intro hs hlt))
  have HI := Lib.hid hI
  have hi6 : (I : Int) ≤ 1000000 := by omega
  have hi0 : (0 : Int) ≤ (I : Int) := by omega
  by_cases hE : E = 0
  · subst hE
    obtain ⟨z, hz⟩ : ∃ z, z = getE (l.drop I) 0 k := ⟨_, rfl⟩
    obtain ⟨v, hv⟩ : ∃ v, v = getV (l.drop I) 0 k := ⟨_, rfl⟩
    have C := Lib.hid (fun (W : World) (hW : W.heap = w.heap) => show Calls Tryd.prog 63 #[.slice A m c, .int .i64 I, .int .i64 kq] W (fun e w' => e = .returned (.tuple #[.int .i64 v, .int .i64 z]) ∧ W = w') from by
      have := r_get A m c l I kq W (hs.keep fun a u hu => by rw [← hu]; simp [World.cell?, hW]) (by omega) (by omega) (by omega) (by omega)
      have hk := HK.out
      subst hk
      rw [getE_drop l I k hI, getV_drop l I k hI, ← hz, ← hv] at this
      exact this)
    have HW := Lib.hid (show numR k lo hi l (I, 0) = if z ≠ 0 then (0, (I, z)) else if v < lo ∨ hi < v then (0, (I, 5)) else (v, (I + k, 0)) from by
      unfold numR numP
      rw [if_neg (by simp), ← hz, ← hv]
      split
      · rename_i h; split at h
        · cases h
        · split at h
          · cases h
          · cases h; rw [if_neg (by assumption), if_neg (by assumption)]
      · rename_i h; split at h
        · cases h; rw [if_pos (by assumption)]
        · split at h
          · cases h; rw [if_neg (by assumption), if_pos (by assumption)]
          · cases h)
    have HLEN := Lib.hid (fun (hz0 : z = 0) => show I + k ≤ l.length from by
      have := get_len (m := l.drop I) (k := (k : Int)) (by rw [← hz]; exact hz0)
      rw [List.length_drop] at this
      omega)
    clear hg hs hlt hz hv hI
    by_cases hz : z = 0
    · subst hz
      have hlen := HLEN.out rfl
      have hsum : (I : Int) + kq ≤ 1000000 := by have := HK.out; omega
      by_cases h1 : v < lo
      · rw [if_neg (by simp), if_pos (.inl h1)] at HW
        clear hlen
        go_enter Tryd.func41, Tryd.ntmps41
        go_wp2_with fail
        go_quiet ((go_at_call 63; exact quiet_mine (C.out _ rfl)))
        go_wp2_with fail
        go_ret
        rw [HW.out]
        exact ⟨rfl, ⟨r_set2 HG.out.1 _, HG.out.2.1.butR HG.out.1 ((drawn_but R w _).setCell 2 _), HI.out⟩, (drawn_but R w _).setCell 2 _⟩
      · by_cases h2 : hi < v
        · rw [if_neg (by simp), if_pos (.inr h2)] at HW
          clear hlen
          go_enter Tryd.func41, Tryd.ntmps41
          go_wp2_with fail
          go_quiet ((go_at_call 63; exact quiet_mine (C.out _ rfl)))
          go_wp2_with fail
          go_ret
          rw [HW.out]
          exact ⟨rfl, ⟨r_set2 HG.out.1 _, HG.out.2.1.butR HG.out.1 ((drawn_but R w _).setCell 2 _), HI.out⟩, (drawn_but R w _).setCell 2 _⟩
        · rw [if_neg (by simp), if_neg (fun q => q.elim h1 h2)] at HW
          have HLN := Lib.hid hlen
          clear hlen
          go_enter Tryd.func41, Tryd.ntmps41
          go_wp2_with fail
          go_quiet ((go_at_call 63; exact quiet_mine (C.out _ rfl)))
          go_wp2_with fail
          go_ret
          rw [HW.out]
          have e : (I : Int) + kq = ((I + k : Nat) : Int) := by have := HK.out; omega
          rw [e]
          exact ⟨rfl, ⟨r_set1 HG.out.1 _, HG.out.2.1.butR HG.out.1 ((drawn_but R w _).setCell 1 _), HLN.out⟩, (drawn_but R w _).setCell 1 _⟩
    · have hz' : (z == 0) = false := by simpa using hz
      rw [if_pos hz] at HW
      clear hz
      go_enter Tryd.func41, Tryd.ntmps41
      go_wp2_with fail
      go_quiet ((go_at_call 63; exact quiet_mine (C.out _ rfl)))
      go_wp2_with fail
      go_ret
      rw [HW.out]
      exact ⟨rfl, ⟨r_set2 HG.out.1 _, HG.out.2.1.butR HG.out.1 ((drawn_but R w _).setCell 2 _), HI.out⟩, (drawn_but R w _).setCell 2 _⟩
  · have hE' : (E == 0) = false := by simpa using hE
    have HW := Lib.hid (show numR k lo hi l (I, E) = (0, (I, E)) by unfold numR; rw [if_pos (by simpa using hE)])
    go_enter Tryd.func41, Tryd.ntmps41
    go_wp2_with fail
    go_ret
    rw [HW.out]
    exact ⟨rfl, ⟨HG.out.1, HG.out.2.1, HI.out⟩, ButB.refl R w⟩

set_option maxHeartbeats 4000000 in
set_option maxRecDepth 100000 in
theorem rr_text (R : Nat) (l : List UInt8) (I : Nat) (E : Int) (w : World) (A : Option Addr) (m c : Nat) (h : IsR w R A m c l (I, E)) (hl : l.length ≤ 1000000) :
    Calls Tryd.prog 42 #[.pointer (some ⟨R, 0, none⟩)] w (Took R A m c l (.string (txtR l (I, E)).1) (txtR l (I, E)).2 w) := by
  obtain ⟨hg, hs, hI⟩ := h
  simp only at hg hI
  obtain ⟨d0, d1, d2, f1, f2⟩ := r_cells hg
  have hlt := (Array.getElem?_eq_some_iff.1 hg).1
  have HG := Lib.hid (And.intro hg (And.intro hs hlt))
  by_cases hE : E = 0
  · subst hE
    obtain ⟨z, hz⟩ : ∃ z, z = textE (l.drop I) := ⟨_, rfl⟩
    obtain ⟨s, hv⟩ : ∃ v, v = mkS (textV (l.drop I)) := ⟨_, rfl⟩
    obtain ⟨J, hJ⟩ : ∃ J, J = I + textK (l.drop I) := ⟨_, rfl⟩
    have C := Lib.hid (fun (W : World) (hW : W.heap = w.heap) => show Calls Tryd.prog 64 #[.slice A m c, .int .i64 I] W (fun e w' => e = .returned (.tuple #[.string s, .int .i64 (J : Int), .int .i64 z]) ∧ W = w') from by
      have := wR_text A m c l I W (hs.keep fun a u hu => by rw [← hu]; simp [World.cell?, hW]) hI hl
      rw [← hz, ← hv, ← hJ] at this
      exact this)
    have HW := Lib.hid (show txtR l (I, 0) = (s, (J, z)) from by
      unfold txtR txtP
      rw [if_neg (by simp), ← hz, ← hv, hJ]
      by_cases h0 : z = 0
      · rw [if_neg (by simpa using h0), h0]
      · rw [if_pos h0]
        have e0 : textE (l.drop I) ≠ 0 := by rw [← hz]; exact h0
        have e1 : textV (l.drop I) = [] := by unfold textV; rw [if_neg e0]
        have e2 : textK (l.drop I) = 0 := by unfold textK; rw [if_neg e0]
        rw [hv, e1, e2]; rfl)
    have HLN := Lib.hid (show J ≤ l.length from by
      by_cases h0 : textE (l.drop I) = 0
      · have e2 : textK (l.drop I) = 4 + (getV (l.drop I) 0 4).toNat := by unfold textK; rw [if_pos h0]
        have hk := text_cs (l.drop I)
        rcases hk with ⟨_, h1, _⟩ | ⟨_, _, h1, _⟩ | ⟨_, _, _, h1, _⟩ | ⟨h1, h2, h3, h4, h5, h6⟩
        · omega
        · omega
        · omega
        · have := get_len h1
          rw [List.length_drop] at this h3
          omega
      · have e2 : textK (l.drop I) = 0 := by unfold textK; rw [if_neg h0]
        omega)
    clear hg hs hlt hz hv hI hJ
    go_enter Tryd.func42, Tryd.ntmps42
    go_wp2_with fail
    go_quiet ((go_at_call 64; exact quiet_mine (C.out _ rfl)))
    go_wp2_with fail
    go_ret
    rw [HW.out]
    have hb : ButB R w (((w.drewN nq).setCell ⟨R, 1, none⟩ (.int .i64 J)).setCell ⟨R, 2, none⟩ (.int .i64 z)) := ((drawn_but R w _).setCell 1 _).setCell 2 _
    exact ⟨rfl, ⟨r_set2 (r_set1 HG.out.1 _) _, HG.out.2.1.butR HG.out.1 hb, HLN.out⟩, hb⟩
  · have hE' : (E == 0) = false := by simpa using hE
    have HI := Lib.hid hI
    have HW := Lib.hid (show txtR l (I, E) = (mkS [], (I, E)) by unfold txtR; rw [if_pos (by simpa using hE)])
    go_enter Tryd.func42, Tryd.ntmps42
    go_wp2_with fail
    go_ret
    rw [HW.out]
    exact ⟨rfl, ⟨HG.out.1, HG.out.2.1, HI.out⟩, ButB.refl R w⟩

theorem rr_numX (R : Nat) (l : List UInt8) (x : RS) (lo hi kq : Int) (k : Nat) (HK : Hid (kq = (k : Int))) (w : World) (A : Option Addr) (m c : Nat) (h : IsR w R A m c l x) (hl : l.length ≤ 1000000) (hk0 : 0 ≤ kq) (hk1 : kq ≤ 7) :
    Calls Tryd.prog 41 #[.pointer (some ⟨R, 0, none⟩), .int .i64 kq, .int .i64 lo, .int .i64 hi] w (Took R A m c l (.int .i64 (numR k lo hi l x).1) (numR k lo hi l x).2 w) := by
  obtain ⟨I, E⟩ := x
  exact rr_num R l I E lo hi kq k HK w A m c h hl hk0 hk1
theorem rr_textX (R : Nat) (l : List UInt8) (x : RS) (w : World) (A : Option Addr) (m c : Nat) (h : IsR w R A m c l x) (hl : l.length ≤ 1000000) :
    Calls Tryd.prog 42 #[.pointer (some ⟨R, 0, none⟩)] w (Took R A m c l (.string (txtR l x).1) (txtR l x).2 w) := by
  obtain ⟨I, E⟩ := x
  exact rr_text R l I E w A m c h hl

end Go.Proofs.YthhlcecojeaalaaDoor
end
