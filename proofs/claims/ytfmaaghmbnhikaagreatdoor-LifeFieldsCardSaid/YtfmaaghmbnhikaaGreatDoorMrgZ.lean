/-
  Texts that the laws of this seat lean on, one behind the other.
-/
import Derived.Test.YtfmaaghmbnhikaaGreatDoorMrgY
import Derived.Shelf.RegionOpenPlain
import Derived.Lib.Overlaps
import Derived.Lib.AppendZerosOnto
import Derived.Laws.CopyRow
import Derived.Laws.CopyOwn
import Derived.Laws.Externs
import Derived.Laws.NewBlocks
import Derived.Test.YtfmaaghmbnhikaaGreatDoorMrgR
import Derived.Laws.Cover1
import Derived.Lib.MinMax
/-
  Contract of slices.Insert of one field into a row of the call's own.
-/
section
namespace Go.Proofs.YtfmaaghmbnhikaaGreatDoor
open Go.RowKit

/-- 'copy(d, s)' into a block that is known whole, at elements of any size. -/
theorem run_copy_rowK {P : Program} (w : World) (dT sT ty elem : TypeId) (k g o dLen dCap : Nat) (a : Addr) (sLen sCap : Nat) (cur : Array Value) (t : TypeId) (cs : List Value)
    (hu : P.underlying dT = some (.slice elem)) (hs : (P.info? elem).map (·.size) = some k)
    (hg : w.heap[g]? = some (.cells cur t (0, 0))) (m : Nat) (hm : Nat.min sLen dLen = m) (hn : cs.length = m * k)
    (hsrc : ∀ j v, cs[j]? = some v → w.cell? (a.add j) = some v) (hfit : o + cs.length ≤ cur.size) (h1 : ∀ v ∈ cs, v.oneCell' = true) :
    (Builtin.copy_ #[dT, sT] ty #[.slice (some ⟨g, o, none⟩) dLen dCap, .slice (some a) sLen sCap]).run P w =
      .ok (goInt m) (w.setRow g (cur.toList.take o ++ cs ++ cur.toList.drop (o + cs.length)).toArray) := by
  have hl := run_loadCells_list (P := P) w a cs hsrc
  have hst := run_storeCells_at P g o t cs 0 cur w hg (by simpa using hfit) h1
  cases hq : P.info? elem with
  | none => simp [hq] at hs
  | some i =>
    have hi : i.size = k := by simpa [hq] using hs
    rw [hn] at hl
    simp [Builtin.copy_, run_underlying hu, Builtin.lenOf, Builtin.firstCells, sizeOf, typeInfo, hq, hi, hm, hl, hst]

theorem wp_copy_runF (w : World) {P : Program} {o : Oper} {a : Act} {K : Act → World → Prop} {Q : Exit → Act → World → Prop} (d s : Operand) (t t' : TypeId)
    (ho : o.op = .call { callee := .builtin .copy, args := #[d, s], argTypes := #[t, t'] }) (v u : Value) (hd : a.eval d = v) (hs : a.eval s = u) {v' : Value} {w' : World}
    (hr : (Builtin.copy_ #[t, t'] o.type #[v, u]).run P w = .ok v' w') (h : K (a.put o.dst v') w') : o.wp P a w K Q := by
  unfold Oper.wp execOp
  simp only [ho, resolve, invoke, builtin, Sem.run_bind, Sem.run_pure, Result.andThen_ok, List.map_toArray, List.map_cons, List.map_nil, hd, hs, hr]
  exact h
theorem wpList_copy_runF (w : World) {P : Program} {ops : Array Oper} {rest : List Oper} {o : Oper} {a : Act} {Q : Exit → Act → World → Prop} (hgd : o.guard = none) (d s : Operand) (t t' : TypeId)
    (ho : o.op = .call { callee := .builtin .copy, args := #[d, s], argTypes := #[t, t'] }) (v u : Value) (hd : a.eval d = v) (hs : a.eval s = u) {v' : Value} {w' : World}
    (hr : (Builtin.copy_ #[t, t'] o.type #[v, u]).run P w = .ok v' w') (h : wpList P ops Q rest (a.put o.dst v') w') : wpList P ops Q (o :: rest) a w :=
  wpList_plain hgd fun _ hK => wp_copy_runF w d s t t' ho v u hd hs hr (hK _ _ h)
theorem step_copy_runF {P : Program} {ops : Array Oper} {o : Oper} {a : Act} {w : World} {K : Act → World → Prop} {Q : Exit → Act → World → Prop} {E : Prop}
    (hg : o.guard = none) (d x : Operand) (dT sT : TypeId) (hop : o.op = Op.call { callee := Callee.builtin Builtin.copy, args := #[d, x], argTypes := #[dT, sT] })
    (v u : Value) (hd : a.eval d = v) (hx : a.eval x = u) {v' : Value} {w' : World} (hr : (Builtin.copy_ #[dT, sT] o.type #[v, u]).run P w = .ok v' w') (hK : K (a.put o.dst v') w') :
    if Region.wanted o (yielded ops a.tmps) = true then Oper.wp P o a w K Q else E := by
  have hw : Region.wanted o (yielded ops a.tmps) = true := by simp [Region.wanted, hg]
  rw [if_pos hw]
  unfold Oper.wp
  simp [execOp, hop, resolve, invoke, builtin, hd, hx, hr, Result.andThen]
  exact hK

/-- What stands in the row behind the two copies. -/
theorem ins_list {α : Type} (C : List α) (V R : List α) (k : Nat) (a n : Nat) (ha : a ≤ n) (hn : n + k ≤ C.length) (hV : V.length = k) (hR : R.length = n - a) :
    let C1 := C.take (a + k) ++ R ++ C.drop (a + k + R.length)
    let C2 := C1.take a ++ V ++ C1.drop (a + V.length)
    C1.length = C.length ∧ C2.length = C.length ∧ C2.take (n + k) = C.take a ++ V ++ R := by
  intro C1 C2
  have l1 : C1.length = C.length := by
    show (C.take (a + k) ++ R ++ C.drop (a + k + R.length)).length = _
    simp only [List.length_append, List.length_take, List.length_drop]; omega
  have l2 : C2.length = C.length := by
    show (C1.take a ++ V ++ C1.drop (a + V.length)).length = _
    simp only [List.length_append, List.length_take, List.length_drop]; omega
  refine ⟨l1, l2, ?_⟩
  have e1 : C1.take a = C.take a := by
    show (C.take (a + k) ++ R ++ C.drop (a + k + R.length)).take a = _
    rw [List.append_assoc, List.take_append_of_le_length (by rw [List.length_take]; omega), List.take_take, Nat.min_eq_left (by omega)]
  have e2 : C1.drop (a + V.length) = R ++ C.drop (a + k + R.length) := by
    show (C.take (a + k) ++ R ++ C.drop (a + k + R.length)).drop (a + V.length) = _
    rw [hV, List.append_assoc, List.drop_append_of_le_length (by rw [List.length_take]; omega), List.drop_eq_nil_of_le (by rw [List.length_take]; omega), List.nil_append]
  show (C1.take a ++ V ++ C1.drop (a + V.length)).take (n + k) = _
  rw [e1, e2, ← List.append_assoc, List.take_append_of_le_length (by simp only [List.length_append, List.length_take]; omega), List.take_of_length_le (by simp only [List.length_append, List.length_take]; omega)]

theorem fdC_take (X : List Fd) (i : Nat) : fdC (X.take i) = (fdC X).take (i * 2) := by
  by_cases h : i ≤ X.length
  · have e : fdC X = fdC (X.take i) ++ fdC (X.drop i) := by rw [← fdC_append, List.take_append_drop]
    rw [congrArg (List.take (i * 2)) e, List.take_append_of_le_length (by rw [fdC_len, List.length_take]; omega)]
    exact (List.take_of_length_le (by rw [fdC_len, List.length_take]; omega)).symm
  · rw [List.take_of_length_le (by omega), List.take_of_length_le (by rw [fdC_len]; omega)]
theorem fdC_drop_at (X : List Fd) (i j : Nat) (u : Value) (h : (fdC (X.drop i))[j]? = some u) : (fdC X)[i * 2 + j]? = some u := by
  by_cases hi : i ≤ X.length
  · have e : fdC X = fdC (X.take i) ++ fdC (X.drop i) := by rw [← fdC_append, List.take_append_drop]
    have hl : (fdC (X.take i)).length = i * 2 := by rw [fdC_len, List.length_take]; omega
    rw [e, List.getElem?_append_right (by omega), hl, Nat.add_sub_cancel_left]
    exact h
  · rw [List.drop_eq_nil_of_le (by omega)] at h
    simp [fdC] at h

theorem grow_list {α : Type} (C : List α) (V R : List α) (k : Nat) (a n : Nat) (ha : a ≤ n) (hn : n + k ≤ C.length) (hV : V.length = k) (hR : R.length = n - a) :
    let C1 := C.take a ++ V ++ C.drop (a + V.length)
    let C2 := C1.take (a + k) ++ R ++ C1.drop (a + k + R.length)
    C1.length = C.length ∧ C2.length = C.length ∧ C2.take (n + k) = C.take a ++ V ++ R := by
  intro C1 C2
  have l1 : C1.length = C.length := by
    show (C.take a ++ V ++ C.drop (a + V.length)).length = _
    simp only [List.length_append, List.length_take, List.length_drop]; omega
  have l2 : C2.length = C.length := by
    show (C1.take (a + k) ++ R ++ C1.drop (a + k + R.length)).length = _
    simp only [List.length_append, List.length_take, List.length_drop]; omega
  refine ⟨l1, l2, ?_⟩
  have e1 : C1.take (a + k) = C.take a ++ V := by
    show (C.take a ++ V ++ C.drop (a + V.length)).take (a + k) = _
    rw [List.take_append_of_le_length (by simp only [List.length_append, List.length_take]; omega), List.take_of_length_le (by simp only [List.length_append, List.length_take]; omega)]
  show (C1.take (a + k) ++ R ++ C1.drop (a + k + R.length)).take (n + k) = _
  rw [e1, List.take_append_of_le_length (by simp only [List.length_append, List.length_take]; omega), List.take_of_length_le (by simp only [List.length_append, List.length_take]; omega)]

end Go.Proofs.YtfmaaghmbnhikaaGreatDoor
end

/-
  Contracts of the reference's Least, has, least, greatest (layer 13).
-/
section
namespace Go.Proofs.YtfmaaghmbnhikaaGreatDoor
open Go.RowKit

theorem r_least (a b : Int) (w : World) :
    Calls Tryz.prog 92 #[.int .i64 a, .int .i64 b] w fun e w' => e = .returned (.int .i64 (leaN a b)) ∧ w = w' := by
  have hD : leaN a b = if a < 0 ∨ b < 0 then max (max a b) (-1) else min a b := rfl
  generalize leaN a b = R at *
  by_cases h1 : a < 0 ∨ b < 0
  · rw [if_pos h1] at hD
    have km : ∀ (W : World) (ts : Array TypeId) (t : TypeId), (Builtin.max_ ts t #[.int .i64 a, .int .i64 b, .int .i64 (-1)]).run Tryz.prog W = .ok (.int .i64 R) W := fun W ts t => by
      rw [run_max_int3, hD]
      congr 2
      repeat' split
      all_goals omega
    clear hD
    rcases h1 with h1 | h1
    · go_enter Tryz.func92, Tryz.ntmps92
      go_wp2_with fail
      go_ret
      exact ⟨rfl, rfl⟩
    · by_cases h2 : a < 0
      all_goals
        go_enter Tryz.func92, Tryz.ntmps92
        go_wp2_with fail
        go_ret
        exact ⟨rfl, rfl⟩
  · rw [if_neg h1] at hD
    have HR := Lib.hid hD
    clear hD
    have h2 : ¬ a < 0 := fun h => h1 (.inl h)
    have h3 : ¬ b < 0 := fun h => h1 (.inr h)
    clear h1
    go_enter Tryz.func92, Tryz.ntmps92
    go_wp2_with fail
    go_ret
    exact ⟨by rw [HR.out]; rfl, rfl⟩

/-! ### Names in a slice -/
def hsN (N : List (List UInt8)) (nm : ByteArray) : Bool := N.any fun x => x == nm.data.toList
theorem hsN_step (N : List (List UInt8)) (nm : ByteArray) (k : Nat) (h : k < N.length) : hsN (N.take (k + 1)) nm = (hsN (N.take k) nm || (N[k] == nm.data.toList)) := by
  unfold hsN
  rw [List.take_succ_eq_append_getElem h, List.any_append]
  simp
theorem hsN_hit (N : List (List UInt8)) (nm : ByteArray) (k : Nat) (h : k < N.length) (g : (N[k] == nm.data.toList) = true) : hsN N nm = true := by
  unfold hsN
  exact List.any_eq_true.2 ⟨N[k], List.getElem_mem h, g⟩

theorem r_has13 (A : Option Addr) (n c : Nat) (N : List (List UInt8)) (nm : ByteArray) (w : World) (h : SlS w A n c N) (hn : n ≤ 1000000000) :
    Calls Tryz.prog 56 #[.slice A n c, .string nm] w fun e w' => e = .returned (.bool (hsN N nm)) ∧ w = w' := by
  have hlen := h.len
  subst hlen
  go_enter Tryz.func56, Tryz.ntmps56
  go_wp2_with fail
  go_loop [5] (fun i => ∃ k : Nat, k ≤ N.length ∧ i = .int .i64 (k : Int) ∧ Hid (hsN (N.take k) nm = false)) (fun i => N.length - (intOf i).toNat)
  case atStart => exact ⟨0, Nat.zero_le _, rfl, rfl⟩
  case round =>
    obtain ⟨k, hk, rfl, hf⟩ := hrel
    by_cases hlt : k < N.length
    · obtain ⟨ad, rfl, hc⟩ := h.at_ (by omega)
      have hcell := hc k N[k] (List.getElem?_eq_getElem hlt)
      have hst := hsN_step N nm k hlt
      have hhit := hsN_hit N nm k hlt
      have heq : ((mkS N[k]).toList == nm.toList) = (N[k] == nm.data.toList) := by rw [Lib.toList_data, Lib.toList_data, mkS_list]
      generalize mkS N[k] = x at *
      rw [← heq] at hst hhit
      have hi0 : (0 : Int) ≤ (k : Int) := by omega
      have hi1 : (k : Int) < (N.length : Int) := by omega
      clear hc heq
      rcases Bool.eq_false_or_eq_true (x.toList == nm.toList) with e | e
      · have HR := Lib.hid (hhit e)
        clear hst hhit hf
        go_wp2_with fail
        go_ret
        exact ⟨by rw [HR.out]; rfl, rfl⟩
      · have HR : Hid (hsN (N.take (k + 1)) nm = false) := by show _ = _; rw [hst, hf.out, e]; rfl
        clear hst hhit hf
        go_wp2_with fail
        go_round
        case rel => exact ⟨k + 1, by omega, by go_num, HR⟩
        case measure => simp [intOf]; omega
    · have HR : Hid (hsN N nm = false) := by
        have := hf.out
        rwa [List.take_of_length_le (by omega)] at this
      have hi1 : ¬ (k : Int) < (N.length : Int) := by omega
      clear hf
      go_wp2_with fail
      go_ret
      exact ⟨by rw [HR.out]; rfl, rfl⟩

/-! ### The least and the greatest number of a name -/
theorem sec_bd (l : List UInt8) : 0 ≤ secN l ∧ secN l ≤ 2147483648 := by
  unfold secN
  split
  · exact ⟨cutV_nn (by decide) (by decide) l, cutV_le (by decide) l⟩
  · exact ⟨Int.le_refl _, by decide⟩
theorem lst_bd (nm : ByteArray) (n : Int) (d : Dv) (h : -1 ≤ n ∧ n ≤ 2147483648) : -1 ≤ lstS nm n d ∧ lstS nm n d ≤ 2147483648 := by
  have := sec_bd d.2
  unfold lstS leaN
  repeat' split
  all_goals omega
theorem grt_bd (nm : ByteArray) (n : Int) (d : Dv) (h : -1 ≤ n ∧ n ≤ 2147483648) : -1 ≤ grtS nm n d ∧ grtS nm n d ≤ 2147483648 := by
  have := sec_bd d.2
  unfold grtS
  repeat' split
  all_goals omega
theorem fold_at {α β : Type} (f : β → α → β) (b : β) (D : List α) (k : Nat) (h : k < D.length) : (D.take (k + 1)).foldl f b = f ((D.take k).foldl f b) D[k] := by
  rw [List.take_succ_eq_append_getElem h, List.foldl_append]; rfl

set_option maxHeartbeats 4000000 in
set_option maxRecDepth 100000 in
theorem r_lstS (A B : Option Addr) (n c d : Nat) (D : List Dv) (nm : ByteArray) (w : World) (h : SlS w A n c (D.map (·.1))) (h' : SlS w B n d (D.map (·.2))) (hn : n ≤ 1000000000) (hz : ∀ x ∈ D, x.2.length ≤ 1000000) :
    Calls Tryz.prog 57 #[.slice A n c, .slice B n d, .string nm] w fun e w' => e = .returned (.int .i64 (D.foldl (lstS nm) (-1))) ∧ w = w' := by
  have hlen := h.len
  rw [List.length_map] at hlen
  subst hlen
  go_enter Tryz.func57, Tryz.ntmps57
  go_wp2_with fail
  go_loop [7, 8] (fun u i => ∃ (k : Nat) (m : Int), k ≤ D.length ∧ i = .int .i64 (k : Int) ∧ u = .int .i64 m ∧ -1 ≤ m ∧ m ≤ 2147483648 ∧ Hid ((D.take k).foldl (lstS nm) (-1) = m)) (fun _ i => D.length - (intOf i).toNat)
  case atStart => exact ⟨0, -1, Nat.zero_le _, rfl, rfl, by decide, by decide, rfl⟩
  case round =>
    obtain ⟨k, m, hk, rfl, rfl, hm0, hm1, hf⟩ := hrel
    by_cases hlt : k < D.length
    · obtain ⟨ad, rfl, hc⟩ := h.at_ (by omega)
      obtain ⟨bd, rfl, hd⟩ := h'.at_ (by omega)
      have hcell := hc k D[k].1 (by rw [List.getElem?_map, List.getElem?_eq_getElem hlt]; rfl)
      have hcell2 := hd k D[k].2 (by rw [List.getElem?_map, List.getElem?_eq_getElem hlt]; rfl)
      have hst := fold_at (lstS nm) (-1) D k hlt
      have hzz := hz _ (List.getElem_mem hlt)
      have hbd := lst_bd nm m D[k] ⟨hm0, hm1⟩
      rw [hf.out] at hst
      have heq : ((mkS D[k].1).toList == nm.toList) = (D[k].1 == nm.data.toList) := by rw [Lib.toList_data, Lib.toList_data, mkS_list]
      generalize D[k] = x at *
      obtain ⟨x1, x2⟩ := x
      simp only at *
      unfold lstS at hst hbd
      simp only at hst hbd
      rw [← heq] at hst hbd
      have CS := Lib.hid (fun W => r_seconds (mkS x2) W (by rw [mkS_size]; have : (1000000 : Nat) ≤ maxLen := by decide
                                                            omega))
      rw [mkS_list] at CS
      have hsb := sec_bd x2
      generalize mkS x1 = y1 at *
      generalize mkS x2 = y2 at *
      generalize secN x2 = sn at *
      generalize secB x2 = sb at *
      have hi0 : (0 : Int) ≤ (k : Int) := by omega
      have hi1 : (k : Int) < (D.length : Int) := by omega
      clear hc hd heq hzz hf
      rcases Bool.eq_false_or_eq_true (y1.toList == nm.toList) with e | e
      · rw [e, if_pos rfl] at hst hbd
        have HQ := Lib.hid hst
        have CL := Lib.hid (fun W => r_least m sn W)
        generalize leaN m sn = q at *
        clear hst
        go_wp2_with fail
        refine (CS.out _).mono ?_
        rintro e w1 ⟨rfl, rfl⟩
        go_wp2_with fail
        refine (CL.out _).mono ?_
        rintro e w1 ⟨rfl, rfl⟩
        go_wp2_with fail
        go_round
        case rel => exact ⟨k + 1, q, by omega, by go_num, rfl, hbd.1, hbd.2, HQ⟩
        case measure => simp [intOf]; omega
      · rw [e, if_neg (by simp)] at hst
        have HQ := Lib.hid hst
        clear hst hbd CS
        go_wp2_with fail
        go_round
        case rel => exact ⟨k + 1, m, by omega, by go_num, rfl, hm0, hm1, HQ⟩
        case measure => simp [intOf]; omega
    · have HR : Hid (D.foldl (lstS nm) (-1) = m) := by
        have := hf.out
        rwa [List.take_of_length_le (by omega)] at this
      have hi1 : ¬ (k : Int) < (D.length : Int) := by omega
      clear hf
      go_wp2_with fail
      go_ret
      exact ⟨by rw [HR.out]; rfl, rfl⟩

set_option maxHeartbeats 4000000 in
set_option maxRecDepth 100000 in
theorem r_grtS (A B : Option Addr) (n c d : Nat) (D : List Dv) (nm : ByteArray) (w : World) (h : SlS w A n c (D.map (·.1))) (h' : SlS w B n d (D.map (·.2))) (hn : n ≤ 1000000000) (hz : ∀ x ∈ D, x.2.length ≤ 1000000) :
    Calls Tryz.prog 58 #[.slice A n c, .slice B n d, .string nm] w fun e w' => e = .returned (.int .i64 (D.foldl (grtS nm) (-1))) ∧ w = w' := by
  have hlen := h.len
  rw [List.length_map] at hlen
  subst hlen
  go_enter Tryz.func58, Tryz.ntmps58
  go_wp2_with fail
  go_loop [7, 8] (fun u i => ∃ (k : Nat) (m : Int), k ≤ D.length ∧ i = .int .i64 (k : Int) ∧ u = .int .i64 m ∧ -1 ≤ m ∧ m ≤ 2147483648 ∧ Hid ((D.take k).foldl (grtS nm) (-1) = m)) (fun _ i => D.length - (intOf i).toNat)
  case atStart => exact ⟨0, -1, Nat.zero_le _, rfl, rfl, by decide, by decide, rfl⟩
  case round =>
    obtain ⟨k, m, hk, rfl, rfl, hm0, hm1, hf⟩ := hrel
    by_cases hlt : k < D.length
    · obtain ⟨ad, rfl, hc⟩ := h.at_ (by omega)
      obtain ⟨bd, rfl, hd⟩ := h'.at_ (by omega)
      have hcell := hc k D[k].1 (by rw [List.getElem?_map, List.getElem?_eq_getElem hlt]; rfl)
      have hcell2 := hd k D[k].2 (by rw [List.getElem?_map, List.getElem?_eq_getElem hlt]; rfl)
      have hst := fold_at (grtS nm) (-1) D k hlt
      have hzz := hz _ (List.getElem_mem hlt)
      have hbd := grt_bd nm m D[k] ⟨hm0, hm1⟩
      rw [hf.out] at hst
      have heq : ((mkS D[k].1).toList == nm.toList) = (D[k].1 == nm.data.toList) := by rw [Lib.toList_data, Lib.toList_data, mkS_list]
      generalize D[k] = x at *
      obtain ⟨x1, x2⟩ := x
      simp only at *
      unfold grtS at hst hbd
      simp only at hst hbd
      rw [← heq] at hst hbd
      have CS := Lib.hid (fun W => r_seconds (mkS x2) W (by rw [mkS_size]; have : (1000000 : Nat) ≤ maxLen := by decide
                                                            omega))
      rw [mkS_list] at CS
      have hsb := sec_bd x2
      generalize mkS x1 = y1 at *
      generalize mkS x2 = y2 at *
      generalize secN x2 = sn at *
      generalize secB x2 = sb at *
      have hi0 : (0 : Int) ≤ (k : Int) := by omega
      have hi1 : (k : Int) < (D.length : Int) := by omega
      clear hc hd heq hzz hf
      rcases Bool.eq_false_or_eq_true (y1.toList == nm.toList) with e | e
      · rw [e, if_pos rfl] at hst hbd
        cases sb with
        | true =>
          rw [if_pos rfl] at hst hbd
          have HQ := Lib.hid hst
          clear hst
          go_wp2_with fail
          refine (CS.out _).mono ?_
          rintro e w1 ⟨rfl, rfl⟩
          go_wp2_with fail
          go_round
          case rel => exact ⟨k + 1, max m sn, by omega, by go_num, rfl, hbd.1, hbd.2, HQ⟩
          case measure => simp [intOf]; omega
        | false =>
          rw [if_neg (by simp)] at hst hbd
          have HQ := Lib.hid hst
          clear hst
          go_wp2_with fail
          refine (CS.out _).mono ?_
          rintro e w1 ⟨rfl, rfl⟩
          go_wp2_with fail
          go_round
          case rel => exact ⟨k + 1, max m 2147483648, by omega, by go_num, rfl, hbd.1, hbd.2, HQ⟩
          case measure => simp [intOf]; omega
      · rw [e, if_neg (by simp)] at hst
        have HQ := Lib.hid hst
        clear hst hbd CS
        go_wp2_with fail
        go_round
        case rel => exact ⟨k + 1, m, by omega, by go_num, rfl, hm0, hm1, HQ⟩
        case measure => simp [intOf]; omega
    · have HR : Hid (D.foldl (grtS nm) (-1) = m) := by
        have := hf.out
        rwa [List.take_of_length_le (by omega)] at this
      have hi1 : ¬ (k : Int) < (D.length : Int) := by omega
      clear hf
      go_wp2_with fail
      go_ret
      exact ⟨by rw [HR.out]; rfl, rfl⟩

end Go.Proofs.YtfmaaghmbnhikaaGreatDoor
end
