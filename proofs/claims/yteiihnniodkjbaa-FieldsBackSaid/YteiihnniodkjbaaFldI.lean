/-
  Contract of slices.Insert of one field into a row of the call's own.
-/
import Derived.Test.YteiihnniodkjbaaFldM
import Derived.Shelf.RegionOpenPlain
import Derived.Lib.Overlaps
import Derived.Lib.AppendZerosOnto
import Derived.Laws.CopyRow
import Derived.Laws.CopyOwn
import Derived.Laws.Externs
import Derived.Laws.NewBlocks
namespace Go.Proofs.Yteiihnniodkjbaa
open Go.RowKit

/-- 'copy(d, s)' into a block that is known whole, at elements of any size. -/
theorem run_copy_rowK {P : Program} (w : World) (dT sT ty elem : TypeId) (k g o dLen dCap : Nat) (a : Addr) (sLen sCap : Nat) (cur : Array Value) (t : TypeId) (cs : List Value)
    (hu : P.underlying dT = some (.slice elem)) (hs : (P.info? elem).map (·.size) = some k)
    (hg : w.heap[g]? = some (.cells cur t (0, 0))) (m : Nat) (hm : Nat.min sLen dLen = m) (hn : cs.length = m * k)
    (hsrc : ∀ j v, cs[j]? = some v → w.cell? (a.add j) = some v) (hfit : o + cs.length ≤ cur.size) (h1 : ∀ v ∈ cs, v.oneCell' = true) :
    (Builtin.copy_ #[dT, sT] ty #[.slice (some ⟨g, o, none⟩) dLen dCap, .slice (some a) sLen sCap]).run P w =
      .ok (goInt m) (w.setRow g (cur.toList.take o ++ cs ++ cur.toList.drop (o + cs.length)).toArray) := by
  have hl := run_loadCells_list (P := P) w a cs hsrc
  have hst := run_storeCells_at P g o t cs 0 cur w hg (by simpa using hfit) h1
  cases hq : P.info? elem with
  | none => simp [hq] at hs
  | some i =>
    have hi : i.size = k := by simpa [hq] using hs
    rw [hn] at hl
    simp [Builtin.copy_, run_underlying hu, Builtin.lenOf, Builtin.firstCells, sizeOf, typeInfo, hq, hi, hm, hl, hst]

theorem wp_copy_runF (w : World) {P : Program} {o : Oper} {a : Act} {K : Act → World → Prop} {Q : Exit → Act → World → Prop} (d s : Operand) (t t' : TypeId)
    (ho : o.op = .call { callee := .builtin .copy, args := #[d, s], argTypes := #[t, t'] }) (v u : Value) (hd : a.eval d = v) (hs : a.eval s = u) {v' : Value} {w' : World}
    (hr : (Builtin.copy_ #[t, t'] o.type #[v, u]).run P w = .ok v' w') (h : K (a.put o.dst v') w') : o.wp P a w K Q := by
  unfold Oper.wp execOp
  simp only [ho, resolve, invoke, builtin, Sem.run_bind, Sem.run_pure, Result.andThen_ok, List.map_toArray, List.map_cons, List.map_nil, hd, hs, hr]
  exact h
theorem wpList_copy_runF (w : World) {P : Program} {ops : Array Oper} {rest : List Oper} {o : Oper} {a : Act} {Q : Exit → Act → World → Prop} (hgd : o.guard = none) (d s : Operand) (t t' : TypeId)
    (ho : o.op = .call { callee := .builtin .copy, args := #[d, s], argTypes := #[t, t'] }) (v u : Value) (hd : a.eval d = v) (hs : a.eval s = u) {v' : Value} {w' : World}
    (hr : (Builtin.copy_ #[t, t'] o.type #[v, u]).run P w = .ok v' w') (h : wpList P ops Q rest (a.put o.dst v') w') : wpList P ops Q (o :: rest) a w :=
  wpList_plain hgd fun _ hK => wp_copy_runF w d s t t' ho v u hd hs hr (hK _ _ h)
theorem step_copy_runF {P : Program} {ops : Array Oper} {o : Oper} {a : Act} {w : World} {K : Act → World → Prop} {Q : Exit → Act → World → Prop} {E : Prop}
    (hg : o.guard = none) (d x : Operand) (dT sT : TypeId) (hop : o.op = Op.call { callee := Callee.builtin Builtin.copy, args := #[d, x], argTypes := #[dT, sT] })
    (v u : Value) (hd : a.eval d = v) (hx : a.eval x = u) {v' : Value} {w' : World} (hr : (Builtin.copy_ #[dT, sT] o.type #[v, u]).run P w = .ok v' w') (hK : K (a.put o.dst v') w') :
    if Region.wanted o (yielded ops a.tmps) = true then Oper.wp P o a w K Q else E := by
  have hw : Region.wanted o (yielded ops a.tmps) = true := by simp [Region.wanted, hg]
  rw [if_pos hw]
  unfold Oper.wp
  simp [execOp, hop, resolve, invoke, builtin, hd, hx, hr, Result.andThen]
  exact hK

/-- What stands in the row behind the two copies. -/
theorem ins_list {α : Type} (C : List α) (V R : List α) (k : Nat) (a n : Nat) (ha : a ≤ n) (hn : n + k ≤ C.length) (hV : V.length = k) (hR : R.length = n - a) :
    let C1 := C.take (a + k) ++ R ++ C.drop (a + k + R.length)
    let C2 := C1.take a ++ V ++ C1.drop (a + V.length)
    C1.length = C.length ∧ C2.length = C.length ∧ C2.take (n + k) = C.take a ++ V ++ R := by
  intro C1 C2
  have l1 : C1.length = C.length := by
    show (C.take (a + k) ++ R ++ C.drop (a + k + R.length)).length = _
    simp only [List.length_append, List.length_take, List.length_drop]; omega
  have l2 : C2.length = C.length := by
    show (C1.take a ++ V ++ C1.drop (a + V.length)).length = _
    simp only [List.length_append, List.length_take, List.length_drop]; omega
  refine ⟨l1, l2, ?_⟩
  have e1 : C1.take a = C.take a := by
    show (C.take (a + k) ++ R ++ C.drop (a + k + R.length)).take a = _
    rw [List.append_assoc, List.take_append_of_le_length (by rw [List.length_take]; omega), List.take_take, Nat.min_eq_left (by omega)]
  have e2 : C1.drop (a + V.length) = R ++ C.drop (a + k + R.length) := by
    show (C.take (a + k) ++ R ++ C.drop (a + k + R.length)).drop (a + V.length) = _
    rw [hV, List.append_assoc, List.drop_append_of_le_length (by rw [List.length_take]; omega), List.drop_eq_nil_of_le (by rw [List.length_take]; omega), List.nil_append]
  show (C1.take a ++ V ++ C1.drop (a + V.length)).take (n + k) = _
  rw [e1, e2, ← List.append_assoc, List.take_append_of_le_length (by simp only [List.length_append, List.length_take]; omega), List.take_of_length_le (by simp only [List.length_append, List.length_take]; omega)]

theorem fdC_take (X : List Fd) (i : Nat) : fdC (X.take i) = (fdC X).take (i * 2) := by
  by_cases h : i ≤ X.length
  · have e : fdC X = fdC (X.take i) ++ fdC (X.drop i) := by rw [← fdC_append, List.take_append_drop]
    rw [congrArg (List.take (i * 2)) e, List.take_append_of_le_length (by rw [fdC_len, List.length_take]; omega)]
    exact (List.take_of_length_le (by rw [fdC_len, List.length_take]; omega)).symm
  · rw [List.take_of_length_le (by omega), List.take_of_length_le (by rw [fdC_len]; omega)]
theorem fdC_drop_at (X : List Fd) (i j : Nat) (u : Value) (h : (fdC (X.drop i))[j]? = some u) : (fdC X)[i * 2 + j]? = some u := by
  by_cases hi : i ≤ X.length
  · have e : fdC X = fdC (X.take i) ++ fdC (X.drop i) := by rw [← fdC_append, List.take_append_drop]
    have hl : (fdC (X.take i)).length = i * 2 := by rw [fdC_len, List.length_take]; omega
    rw [e, List.getElem?_append_right (by omega), hl, Nat.add_sub_cancel_left]
    exact h
  · rw [List.drop_eq_nil_of_le (by omega)] at h
    simp [fdC] at h

set_option maxHeartbeats 8000000 in
set_option maxRecDepth 100000 in
/-- There is room. -/
theorem insert_room (g cap vb tv E : Nat) (hE : E = 26) (cur : Array Value) (X : List Fd) (f : Fd) (i : Nat) (w : World) (hg : w.heap[g]? = some (.cells cur E (0, 0))) (hcs : cur.size = cap * 2) (ht : cur.toList.take (X.length * 2) = fdC X)
    (hi : i < X.length) (hroom : X.length + 1 ≤ cap) (hcm : cap ≤ maxLen) (hv : w.heap[vb]? = some (.cells #[.string f.1, .string f.2] tv (0, 0))) (hne : vb ≠ g) :
    Calls Try.prog 51 #[.slice (some ⟨g, 0, none⟩) X.length cap, .int .i64 i, .slice (some ⟨vb, 0, none⟩) 1 1] w fun e w' =>
      ∃ cur' : Array Value, e = .returned (.slice (some ⟨g, 0, none⟩) (X.length + 1) cap) ∧ w' = w.drew.setRow g cur' ∧ cur'.size = cap * 2 ∧ cur'.toList.take ((X.length + 1) * 2) = fdC (X.take i ++ [f] ++ X.drop i) := by
  subst hE
  obtain ⟨n, hn⟩ : ∃ n, n = X.length := ⟨_, rfl⟩
  rw [← hn] at ht hi hroom ⊢
  unfold maxLen at hcm
  have hcl : cur.toList.length = cap * 2 := by simpa using hcs
  -- the two rows
  have hR : (fdC (X.drop i)).length = n * 2 - i * 2 := by rw [fdC_len, List.length_drop]; omega
  have hV : (fdC [f]).length = 2 := rfl
  have hl := ins_list cur.toList (fdC [f]) (fdC (X.drop i)) 2 (i * 2) (n * 2) (by omega) (by omega) hV hR
  obtain ⟨c1, hc1⟩ : ∃ c1 : Array Value, c1 = (cur.toList.take (i * 2 + 2) ++ fdC (X.drop i) ++ cur.toList.drop (i * 2 + 2 + (fdC (X.drop i)).length)).toArray := ⟨_, rfl⟩
  obtain ⟨c2, hc2⟩ : ∃ c2 : Array Value, c2 = (c1.toList.take (i * 2) ++ fdC [f] ++ c1.toList.drop (i * 2 + (fdC [f]).length)).toArray := ⟨_, rfl⟩
  have e1 : c1.toList = cur.toList.take (i * 2 + 2) ++ fdC (X.drop i) ++ cur.toList.drop (i * 2 + 2 + (fdC (X.drop i)).length) := by rw [hc1]
  obtain ⟨l1, l2, l3⟩ := hl
  rw [← e1] at l1 l2 l3
  have s1 : c1.size = cap * 2 := by rw [← Array.length_toList, l1, hcl]
  have s2 : c2.size = cap * 2 := by rw [hc2, List.size_toArray, l2, hcl]
  have t2 : c2.toList.take ((n + 1) * 2) = fdC (X.take i ++ [f] ++ X.drop i) := by
    rw [hc2, show (n + 1) * 2 = n * 2 + 2 by omega, l3, fdC_append, fdC_append]
    congr 2
    rw [fdC_take, ← ht, List.take_take, Nat.min_eq_left (by omega)]
  have hcell : ∀ j u, (fdC X)[j]? = some u → w.cell? ⟨g, j, none⟩ = some u := fun j u hj => by
    rw [cell_of_row w g j cur _ _ hg]
    rw [← ht, List.getElem?_take] at hj
    split at hj
    · simpa using hj
    · cases hj
  have hg1 : (w.drew.setRow g c1).heap[g]? = some (.cells c1 26 (0, 0)) := setRow_heap w.drew g cur c1 _ _ hg
  have hv1 : (w.drew.setRow g c1).heap[vb]? = some (.cells #[.string f.1, .string f.2] tv (0, 0)) := (setRow_other w.drew g vb c1 hne).trans hv
  have hsz : (Try.prog.info? 26).map (·.size) = some 2 := by kernel_rfl
  have hzz : ∀ w, (Go.sizeOf 26).run Try.prog w = .ok 2 w := fun w => by
    unfold Go.sizeOf typeInfo
    cases hq : Try.prog.info? 26 with
    | none => rw [hq] at hsz; cases hsz
    | some x =>
      rw [hq] at hsz
      simp only [Option.map_some, Option.some.injEq] at hsz
      simp [hq, hsz]
  have hov : ∀ lb cb, (callFunc 69 #[.slice (some ⟨vb, 0, none⟩) 1 1, .slice (some ⟨g, (i + 1) * 2, none⟩) lb cb]).run Try.prog w = .ok (.value (.bool false)) w := fun lb cb => by
    rw [run_callFunc_extern Try.func69 (by kernel_rfl) (by kernel_rfl) (by kernel_rfl) (e := Extern.SlicesOverlaps.overlaps #[22, 22] #[4]) (by kernel_rfl),
      Lib.run_overlaps_apart w 22 4 26 Try.underlying22 2 hzz ⟨vb, 0, none⟩ ⟨g, (i + 1) * 2, none⟩ 1 1 lb cb hne tv 26 2 (cap * 2) (by simp [World.shape?, hv]) (by simp [World.shape?, hg, hcs]) (by omega) (by simp [World.frozen?, hv]) (by simp [World.frozen?, hv])]
    rfl
  have hcp1 : ∀ ty dc sc, (Builtin.copy_ #[22, 22] ty #[.slice (some ⟨g, (i + 1) * 2, none⟩) (n - i) dc, .slice (some ⟨g, i * 2, none⟩) (n + 1 - i) sc]).run Try.prog w.drew = .ok (goInt (n - i : Nat)) (w.drew.setRow g c1) := fun ty dc sc => by
    rw [hc1, show (i + 1) * 2 = i * 2 + 2 by omega]
    exact run_copy_rowK w.drew _ _ ty 26 2 g (i * 2 + 2) (n - i) dc ⟨g, i * 2, none⟩ (n + 1 - i) sc cur 26 (fdC (X.drop i)) Try.underlying22 hsz hg (n - i) (by simp only [Nat.min_def]; split <;> omega) (by rw [hR]; omega)
      (fun j v hj => by rw [Addr.add_lit]; exact hcell _ v (fdC_drop_at X i j v hj)) (by rw [hR]; omega) (fdC_ones _)
  have hcp2 : ∀ ty dc, (Builtin.copy_ #[22, 22] ty #[.slice (some ⟨g, i * 2, none⟩) (n + 1 - i) dc, .slice (some ⟨vb, 0, none⟩) 1 1]).run Try.prog (w.drew.setRow g c1) = .ok (goInt (1 : Nat)) ((w.drew.setRow g c1).setRow g c2) := fun ty dc => by
    rw [hc2]
    exact run_copy_rowK (w.drew.setRow g c1) _ _ ty 26 2 g (i * 2) (n + 1 - i) dc ⟨vb, 0, none⟩ 1 1 c1 26 (fdC [f]) Try.underlying22 hsz hg1 1 (by simp only [Nat.min_def]; split <;> omega) rfl
      (fun j v hj => by
        rw [Addr.add_lit, cell_of_row _ _ _ _ _ _ hv1, Nat.zero_add]
        rcases j with _ | _ | j
        · simpa [fdC] using hj
        · simpa [fdC] using hj
        · simp [fdC] at hj) (by rw [hV, s1]; omega) (fdC_ones _)
  rw [setRow_setRow] at hcp2
  have hz2 : ¬ ((i : Int) = (n : Int)) := by omega
  have hz3 : ¬ ((cap : Int) < (n : Int) + 1) := by omega
  have hw1 : IntKind.i64.wrap ((i : Int) + 1) = (i : Int) + 1 := by rw [IntKind.wrap_i64]; omega
  have hw2 : IntKind.i64.wrap ((n : Int) + 1) = (n : Int) + 1 := by rw [IntKind.wrap_i64]; omega
  have hb1 : (0 : Int) ≤ (i : Int) + 1 := by omega
  have hin : i ≤ n := by omega
  have hin' : (i : Int) ≤ (n : Int) := by omega
  have htn : ((i : Int) + 1).toNat = i + 1 := by omega
  have htn' : ((n : Int) + 1).toNat = n + 1 := by omega
  have hb2 : ¬ (cap = i + 1) := by omega
  have hb3 : (i : Int) ≤ (n : Int) + 1 := by omega
  have hb4 : ¬ (cap = i) := by omega
  have hb5 : (i : Int) + 1 ≤ (n : Int) + 1 := by omega
  have hb6 : (n : Int) + 1 ≤ (cap : Int) := by omega
  have mixed : Try.prog.follows .mixedOrders = true := by kernel_rfl
  have R2 : Hid (c2.size = cap * 2 ∧ c2.toList.take ((n + 1) * 2) = fdC (X.take i ++ [f] ++ X.drop i)) := ⟨s2, t2⟩
  clear hc1 hc2 e1 l1 l2 l3 s1 s2 t2 hcell hg1 hv1 hR hV ht hcl hcs hn
  go_enter Try.func51, Try.ntmps51
  go_wp2_with (simp only [hov])
  go_region_law_o (refine step_copy_runF rfl _ _ 22 22 rfl _ _ (by simp [Act.eval, Act.put]) (by simp [Act.eval, Act.put]) (hcp1 _ _ _) ?_)
  go_wp2_with (at_builtin; refine wpList_copy_runF _ rfl _ _ 22 22 rfl _ _ rfl rfl (hcp2 _ _) ?_)
  go_ret
  exact ⟨c2, rfl, rfl, R2.out.1, R2.out.2⟩

theorem grow_list {α : Type} (C : List α) (V R : List α) (k : Nat) (a n : Nat) (ha : a ≤ n) (hn : n + k ≤ C.length) (hV : V.length = k) (hR : R.length = n - a) :
    let C1 := C.take a ++ V ++ C.drop (a + V.length)
    let C2 := C1.take (a + k) ++ R ++ C1.drop (a + k + R.length)
    C1.length = C.length ∧ C2.length = C.length ∧ C2.take (n + k) = C.take a ++ V ++ R := by
  intro C1 C2
  have l1 : C1.length = C.length := by
    show (C.take a ++ V ++ C.drop (a + V.length)).length = _
    simp only [List.length_append, List.length_take, List.length_drop]; omega
  have l2 : C2.length = C.length := by
    show (C1.take (a + k) ++ R ++ C1.drop (a + k + R.length)).length = _
    simp only [List.length_append, List.length_take, List.length_drop]; omega
  refine ⟨l1, l2, ?_⟩
  have e1 : C1.take (a + k) = C.take a ++ V := by
    show (C.take a ++ V ++ C.drop (a + V.length)).take (a + k) = _
    rw [List.take_append_of_le_length (by simp only [List.length_append, List.length_take]; omega), List.take_of_length_le (by simp only [List.length_append, List.length_take]; omega)]
  show (C1.take (a + k) ++ R ++ C1.drop (a + k + R.length)).take (n + k) = _
  rw [e1, List.take_append_of_le_length (by simp only [List.length_append, List.length_take]; omega), List.take_of_length_le (by simp only [List.length_append, List.length_take]; omega)]

set_option maxHeartbeats 8000000 in
set_option maxRecDepth 100000 in
/-- There is no room. -/
theorem insert_grow (g cap vb tv E : Nat) (hE : E = 26) (cur : Array Value) (X : List Fd) (f : Fd) (i : Nat) (w : World) (hg : w.heap[g]? = some (.cells cur E (0, 0))) (ht : cur.toList.take (X.length * 2) = fdC X)
    (hi : i < X.length) (hnc : X.length ≤ cap) (hroom : cap < X.length + 1) (hbig : X.length ≤ 1000000000) (hv : w.heap[vb]? = some (.cells #[.string f.1, .string f.2] tv (0, 0))) :
    Calls Try.prog 51 #[.slice (some ⟨g, 0, none⟩) X.length cap, .int .i64 i, .slice (some ⟨vb, 0, none⟩) 1 1] w fun e w' =>
      ∃ (G : Nat) (cur' : Array Value), e = .returned (.slice (some ⟨w.heap.size, 0, none⟩) (X.length + 1) G) ∧ w'.heap[w.heap.size]? = some (.cells cur' E (0, 0)) ∧ Below w.heap.size w w' ∧ X.length + 1 ≤ G ∧ G ≤ maxLen ∧ cur'.size = G * 2 ∧ cur'.toList.take ((X.length + 1) * 2) = fdC (X.take i ++ [f] ++ X.drop i) := by
  subst hE
  obtain ⟨n, hn⟩ : ∃ n, n = X.length := ⟨_, rfl⟩
  rw [← hn] at ht hi hnc hroom hbig ⊢
  have hgw : g < w.heap.size := (Array.getElem?_eq_some_iff.1 hg).1
  have hvw : vb < w.heap.size := (Array.getElem?_eq_some_iff.1 hv).1
  obtain ⟨N, hN⟩ : ∃ N, N = w.heap.size := ⟨_, rfl⟩
  have hR : (fdC (X.drop i)).length = n * 2 - i * 2 := by rw [fdC_len, List.length_drop]; omega
  have hT : (fdC (X.take i)).length = i * 2 := by rw [fdC_len, List.length_take]; omega
  have hV : (fdC [f]).length = 2 := rfl
  have hcell : ∀ j u, (fdC X)[j]? = some u → w.cell? ⟨g, j, none⟩ = some u := fun j u hj => by
    rw [cell_of_row w g j cur _ _ hg]
    rw [← ht, List.getElem?_take] at hj
    split at hj
    · simpa using hj
    · cases hj
  obtain ⟨i0, hi0, hz0, hzs, hzb⟩ := info_parts (z := .agg #[.string ⟨#[]⟩, .string ⟨#[]⟩]) (size := 2) (bytes := 32) (show (Try.prog.info? 26).map (fun i => (i.zero, i.size, i.bytes)) = some (some (.agg #[.string ⟨#[]⟩, .string ⟨#[]⟩]), 2, 32) by kernel_rfl)
  have hsz : (Try.prog.info? 26).map (·.size) = some 2 := by rw [hi0]; simp [hzs]
  have hold : (Builtin.firstCells i0.size i (.slice (some ⟨g, 0, none⟩) i cap)).run Try.prog w.drew = .ok (fdC (X.take i)).toArray w.drew := by
    rw [hzs]
    exact run_firstCells_some (w := w.drew) 2 i ⟨g, 0, none⟩ i cap (fdC (X.take i)) hT (fun j v hj => by
      rw [Addr.add_lit, Nat.zero_add]
      refine hcell j v ?_
      rw [fdC_take, List.getElem?_take] at hj
      split at hj
      · exact hj
      · cases hj)
  obtain ⟨G, hG⟩ : ∃ G, G = grownCap w (n + 1) cap 26 := ⟨_, rfl⟩
  have hGn : n + 1 ≤ G := by rw [hG]; exact grownCap_ge w _ _ _
  have hGm : G ≤ maxLen := by rw [hG]; exact grownCap_le_maxLen w (n + 1) cap _ (by unfold maxLen; omega)
  obtain ⟨ROW, hROW⟩ : ∃ ROW : Array Value, ROW = (fdC (X.take i)).toArray ++ Builtin.zeroCells (Value.agg #[.string ⟨#[]⟩, .string ⟨#[]⟩]).cells (n + 1 - i) ++ Builtin.zeroCells (Value.agg #[.string ⟨#[]⟩, .string ⟨#[]⟩]).cells (G - (n + 1)) := ⟨_, rfl⟩
  obtain ⟨W1, hW1⟩ : ∃ W1, W1 = w.drew.alloc (.cells ROW 26) := ⟨_, rfl⟩
  have hkk : (n : Int) + 1 - (i : Int) = ((n + 1 - i : Nat) : Int) := by omega
  have hik : i + (n + 1 - i) = n + 1 := by omega
  have hrz : ∀ ty, (Builtin.append_ #[22, 3] ty #[.slice (some ⟨g, 0, none⟩) i cap, .int .i64 ((n : Int) + 1 - (i : Int))]).run Try.prog w = .ok (.slice (some ⟨N, 0, none⟩) (n + 1) G) W1 := fun ty => by
    have h := Lib.run_append_grow_zeros w 22 3 ty 26 i0 _ .i64 .i64 Try.underlying22 Try.underlying3 hi0 hz0 (some ⟨g, 0, none⟩) i cap (fdC (X.take i)) hold (n + 1 - i) (by omega) (by omega) (by omega) (by omega) (by rw [hzb]; omega) (by rw [hzb, hik]; exact growslice_fits hroom (by omega))
    rw [hik, ← hG, ← hROW, ← hW1, ← hN] at h
    rw [hkk]
    exact h
  have hRl : ROW.size = G * 2 := by
    rw [hROW]
    simp [Builtin.zeroCells, Value.cells, hT]
    omega
  have hRt : ROW.toList.take (i * 2) = fdC (X.take i) := by
    rw [hROW]
    simp [hT]
  have hcl : ROW.toList.length = G * 2 := by simpa using hRl
  obtain ⟨l1, l2, l3⟩ := grow_list ROW.toList (fdC [f]) (fdC (X.drop i)) 2 (i * 2) (n * 2) (by omega) (by omega) hV hR
  obtain ⟨c1, hc1⟩ : ∃ c1 : Array Value, c1 = (ROW.toList.take (i * 2) ++ fdC [f] ++ ROW.toList.drop (i * 2 + (fdC [f]).length)).toArray := ⟨_, rfl⟩
  obtain ⟨c2, hc2⟩ : ∃ c2 : Array Value, c2 = (c1.toList.take (i * 2 + 2) ++ fdC (X.drop i) ++ c1.toList.drop (i * 2 + 2 + (fdC (X.drop i)).length)).toArray := ⟨_, rfl⟩
  have e1 : c1.toList = ROW.toList.take (i * 2) ++ fdC [f] ++ ROW.toList.drop (i * 2 + (fdC [f]).length) := by rw [hc1]
  rw [← e1] at l1 l2 l3
  have s1 : c1.size = G * 2 := by rw [← Array.length_toList, l1, hcl]
  have s2 : c2.size = G * 2 := by rw [hc2, List.size_toArray, l2, hcl]
  have t2 : c2.toList.take ((n + 1) * 2) = fdC (X.take i ++ [f] ++ X.drop i) := by
    rw [hc2, show (n + 1) * 2 = n * 2 + 2 by omega, l3, hRt, fdC_append, fdC_append]
  have hN1 : W1.heap[N]? = some (.cells ROW 26 (0, 0)) := by rw [hW1, hN]; exact heap_alloc_new w.drew _
  have hO1 : ∀ k, k < N → W1.heap[k]? = w.heap[k]? := fun k hk => by rw [hW1]; exact Below.heap_alloc w.drew _ k (by rw [hN] at hk; exact hk)
  have hB1 : Below w.heap.size w W1 := by rw [hW1]; exact (Below.refl _ _).drew.alloc (Nat.le_refl _) _
  obtain ⟨W2, hW2⟩ : ∃ W2, W2 = W1.setRow N c1 := ⟨_, rfl⟩
  have hN2 : W2.heap[N]? = some (.cells c1 26 (0, 0)) := by rw [hW2]; exact setRow_heap W1 N ROW c1 _ _ hN1
  have hO2 : ∀ k, k < N → W2.heap[k]? = w.heap[k]? := fun k hk => by rw [hW2]; exact (setRow_other W1 N k c1 (by omega)).trans (hO1 k hk)
  have hB2 : Below w.heap.size w W2 := by rw [hW2]; exact below_setRow hB1 (by omega) c1
  obtain ⟨W3, hW3⟩ : ∃ W3, W3 = W2.drew.setRow N c2 := ⟨_, rfl⟩
  have hN3 : W3.heap[N]? = some (.cells c2 26 (0, 0)) := by rw [hW3]; exact setRow_heap W2.drew N c1 c2 _ _ hN2
  have hB3 : Below w.heap.size w W3 := by rw [hW3]; exact below_setRow hB2.drew (by omega) c2
  have hcpA : ∀ ty dc, (Builtin.copy_ #[22, 22] ty #[.slice (some ⟨N, i * 2, none⟩) (n + 1 - i) dc, .slice (some ⟨vb, 0, none⟩) 1 1]).run Try.prog W1 = .ok (goInt (1 : Nat)) W2 := fun ty dc => by
    rw [hW2, hc1]
    exact run_copy_rowK W1 _ _ ty 26 2 N (i * 2) (n + 1 - i) dc ⟨vb, 0, none⟩ 1 1 ROW 26 (fdC [f]) Try.underlying22 hsz hN1 1 (by simp only [Nat.min_def]; split <;> omega) rfl
      (fun j v hj => by
        rw [Addr.add_lit, cell_of_row _ _ _ _ _ _ ((hO1 vb (by omega)).trans hv), Nat.zero_add]
        rcases j with _ | _ | j
        · simpa [fdC] using hj
        · simpa [fdC] using hj
        · simp [fdC] at hj) (by rw [hV, hRl]; omega) (fdC_ones _)
  have hcpB : ∀ ty dc sc, (Builtin.copy_ #[22, 22] ty #[.slice (some ⟨N, (i + 1) * 2, none⟩) (n - i) dc, .slice (some ⟨g, i * 2, none⟩) (n - i) sc]).run Try.prog W2.drew = .ok (goInt (n - i : Nat)) W3 := fun ty dc sc => by
    rw [hW3, hc2, show (i + 1) * 2 = i * 2 + 2 by omega]
    exact run_copy_rowK W2.drew _ _ ty 26 2 N (i * 2 + 2) (n - i) dc ⟨g, i * 2, none⟩ (n - i) sc c1 26 (fdC (X.drop i)) Try.underlying22 hsz hN2 (n - i) (by simp only [Nat.min_def]; split <;> omega) (by rw [hR]; omega)
      (fun j v hj => by
        rw [Addr.add_lit]
        have h1 := hcell _ v (fdC_drop_at X i j v hj)
        exact (World.cell?_of_block (w := w) (hO2 g (by omega))).trans h1) (by rw [hR, s1]; omega) (fdC_ones _)
  have hz2 : ¬ ((i : Int) = (n : Int)) := by omega
  have hz3 : (cap : Int) < (n : Int) + 1 := by omega
  have hw1 : IntKind.i64.wrap ((i : Int) + 1) = (i : Int) + 1 := by rw [IntKind.wrap_i64]; omega
  have hb1 : (0 : Int) ≤ (i : Int) + 1 := by omega
  have hin : i ≤ n := by omega
  have hin' : (i : Int) ≤ (n : Int) := by omega
  have htn : ((i : Int) + 1).toNat = i + 1 := by omega
  have hb2 : ¬ (cap = i) := by omega
  have hb3 : ¬ (G = i) := by omega
  have hb4 : ¬ (G = i + 1) := by omega
  have hb5 : (i : Int) + 1 ≤ (n : Int) + 1 := by omega
  have hb6 : (i : Int) ≤ (n : Int) + 1 := by omega
  have hb7 : (i : Int) ≤ (cap : Int) := by omega
  have mixed : Try.prog.follows .mixedOrders = true := by kernel_rfl
  have RES : Hid (W3.heap[N]? = some (.cells c2 26 (0, 0)) ∧ Below N w W3 ∧ n + 1 ≤ G ∧ G ≤ maxLen ∧ c2.size = G * 2 ∧ c2.toList.take ((n + 1) * 2) = fdC (X.take i ++ [f] ++ X.drop i)) := ⟨hN3, by rw [hN]; exact hB3, hGn, hGm, s2, t2⟩
  unfold maxLen at hGm
  clear hc1 hc2 e1 l1 l2 l3 s1 s2 t2 hcell hR hV hT ht hcl hkk hik hold hROW hG hRl hRt hN1 hN2 hN3 hO1 hO2 hB1 hB2 hB3 hW1 hW2 hW3 hn hi0 hz0 hzs hzb
  rw [← hN]
  clear hN
  go_enter Try.func51, Try.ntmps51
  go_wp2_with (first
    | (at_builtin; refine Lib.wpList_append_run _ rfl _ _ _ _ rfl _ _ rfl rfl _ _ (hrz _) ?_)
    | (at_builtin; refine wpList_copy_runF _ rfl _ _ 22 22 rfl _ _ rfl rfl (hcpA _ _) ?_))
  go_region_law_o (refine step_copy_runF rfl _ _ 22 22 rfl _ _ (by simp [Act.eval, Act.put]) (by simp [Act.eval, Act.put]) (hcpB _ _ _) ?_)
  go_wp2_with fail
  go_ret
  exact ⟨G, c2, rfl, RES.out⟩

/-- Insert into a row of the call's own, one field at any place. -/
theorem insert_any (base : Nat) (v : Value) (X : List Fd) (f : Fd) (i vb tv : Nat) (w : World) (h : OwnF w base 26 v X) (hi : i ≤ X.length) (hn : X.length ≤ 100000000) (hbase : base ≤ w.heap.size) (hf : f.1.size ≤ maxLen ∧ f.2.size ≤ maxLen)
    (hv : w.heap[vb]? = some (.cells #[.string f.1, .string f.2] tv (0, 0))) (hne : ∀ g, v.ownBlock = some g → vb ≠ g) :
    Calls Try.prog 51 #[v, .int .i64 i, .slice (some ⟨vb, 0, none⟩) 1 1] w fun e w' =>
      ∃ v', e = .returned v' ∧ OwnF w' base 26 v' (X.take i ++ [f] ++ X.drop i) ∧ Below base w w' := by
  have hlen : (X.take i ++ [f] ++ X.drop i).length = X.length + 1 := by
    simp only [List.length_append, List.length_take, List.length_drop, List.length_cons, List.length_nil]; omega
  by_cases hin : i = X.length
  · have hX : X.take i ++ [f] ++ X.drop i = X ++ [f] := by rw [hin]; simp
    rw [hX]
    have HS : SlF w (some ⟨vb, 0, none⟩) 1 1 [f] := by
      refine ⟨rfl, Nat.le_refl _, by decide, (fun e => by cases e), fun _ => ⟨_, rfl, fun j x hx => ?_⟩, fun x hx => by simp only [List.mem_singleton] at hx; subst hx; exact hf⟩
      rcases j with _ | j
      · simp only [List.getElem?_cons_zero, Option.some.injEq] at hx
        subst hx
        rw [addr_add, addr_add]
        exact zero_two hv
      · simp at hx
    have HH := Lib.hid h
    rcases h.2 with ⟨rfl, h0⟩ | ⟨g, cap, cur, rfl, hb, hg, hnc, hcm, hcs, ht⟩
    · have hi0 : i = 0 := by omega
      subst hi0
      have hX0 : X = [] := List.eq_nil_of_length_eq_zero (by omega)
      subst hX0
      clear hX hlen hin h hne
      go_enter Try.func51, Try.ntmps51
      go_wp2_with (at_builtin; refine wpList_append_slf rfl _ _ _ rfl base 26 Try.underlying22 (by kernel_rfl) _ rfl [] HH.out _ _ _ rfl [f] HS (by simp) hbase w (Below.refl _ _) ?_; intro v1 w2 ho2 hb2 hz2)
      go_ret
      exact ⟨_, rfl, ho2.out, hb2⟩
    · subst hin
      have hcc : (X.length : Int) ≤ (X.length : Int) := Int.le_refl _
      clear hX hlen h hne hg hcs ht
      unfold maxLen at hcm
      by_cases hce : cap = X.length
      all_goals
        go_enter Try.func51, Try.ntmps51
        go_wp2_with (at_builtin; refine wpList_append_slf rfl _ _ _ rfl base 26 Try.underlying22 (by kernel_rfl) _ rfl X HH.out _ _ _ rfl [f] HS (by simp; omega) hbase w (Below.refl _ _) ?_; intro v1 w2 ho2 hb2 hz2)
        go_ret
        exact ⟨_, rfl, ho2.out, hb2⟩
  · rcases h.2 with ⟨rfl, h0⟩ | ⟨g, cap, cur, rfl, hb, hg, hnc, hcm, hcs, ht⟩
    · omega
    · by_cases hroom : X.length + 1 ≤ cap
      · refine (insert_room g cap vb tv _ rfl cur X f i w hg hcs ht (by omega) hroom hcm hv (hne g rfl)).mono ?_
        rintro e w' ⟨cur', rfl, rfl, h1, h2⟩
        refine ⟨_, rfl, ⟨by rw [fdC_len], .inr ⟨g, cap, cur', by rw [hlen], hb, setRow_heap w.drew g cur cur' _ _ hg, by omega, hcm, h1, by rw [hlen]; exact h2⟩⟩, below_setRow ((Below.refl _ _).drew) hb cur'⟩
      · refine (insert_grow g cap vb tv _ rfl cur X f i w hg ht (by omega) hnc (by omega) (by omega) hv).mono ?_
        rintro e w' ⟨G, cur', rfl, h0, hb', h1, h2, h3, h4⟩
        refine ⟨_, rfl, ⟨by rw [fdC_len], .inr ⟨w.heap.size, G, cur', by rw [hlen], hbase, h0, by omega, h2, h3, by rw [hlen]; exact h4⟩⟩, hb'.mono hbase⟩

end Go.Proofs.Yteiihnniodkjbaa
