/-
  Texts that the laws of this seat lean on, one behind the other.
-/
import Derived.Test.YtjkfdjolhmgemaaGreatDoorMrgR
import Derived.Test.YtjkfdjolhmgemaaGreatDoorMrgG
import Derived.Deep.RegionLaw
import Derived.Lib.SliceRun
set_option linter.unusedSimpArgs false
set_option linter.unusedVariables false
/-
  Contract of slices.DeleteFunc on fields that are the caller's own, for any test that is handed in.
-/
section
namespace Go.Proofs.YtjkfdjolhmgemaaGreatDoor
open Go.RowKit
set_option linter.unusedSimpArgs false

def fdE2 (x : Fd) : List Value := [.string x.1, .string x.2]
theorem fdE2_flat (L : List Fd) : (L.map fdE2).flatten = fdC L := by unfold fdC fdE2; rw [List.flatMap_def]
theorem pair_up : ∀ (n : Nat) (l : List Value), l.length = n * 2 → ∃ R : List (List Value), R.length = n ∧ R.flatten = l ∧ ∀ x ∈ R, x.length = 2
  | 0, l, h => ⟨[], rfl, (List.eq_nil_of_length_eq_zero (by omega)).symm, fun x hx => by cases hx⟩
  | n + 1, [], h => by simp at h
  | n + 1, [_], h => by simp at h; omega
  | n + 1, a :: b :: l, h => by
    obtain ⟨R, h1, h2, h3⟩ := pair_up n l (by simp at h; omega)
    refine ⟨[a, b] :: R, by simp [h1], by simp [h2], fun x hx => ?_⟩
    rcases List.mem_cons.1 hx with rfl | hx
    · rfl
    · exact h3 x hx

/-- Fields of one's own, as a row of elements. -/
theorem OwnF.row {w : World} {base e : Nat} {v : Value} {X : List Fd} (h : OwnF w base e v X) (h0 : 0 < X.length) :
    ∃ g cap R, v = .slice (some ⟨g, 0, none⟩) X.length cap ∧ base ≤ g ∧ X.length ≤ cap ∧ cap ≤ maxLen ∧ RowE w g e (X.map fdE2 ++ R) ∧ ∀ l ∈ R, l.length = 2 := by
  rcases h.2 with ⟨_, h1⟩ | ⟨g, cap, cur, hv, hb, hg, hn, hm, hc, ht⟩
  · omega
  · have hd : (cur.toList.drop (X.length * 2)).length = (cap - X.length) * 2 := by rw [List.length_drop, Array.length_toList, hc, Nat.sub_mul]
    obtain ⟨R, h1, h2, h3⟩ := pair_up (cap - X.length) _ hd
    refine ⟨g, cap, R, hv, hb, hn, hm, ?_, h3⟩
    show w.heap[g]? = _
    rw [List.flatten_append, fdE2_flat, h2, ← ht, List.take_append_drop, Array.toArray_toList]
    exact hg
theorem fdE2_len {L : List Fd} {R : List (List Value)} (h : ∀ l ∈ R, l.length = 2) : ∀ l ∈ L.map fdE2 ++ R, l.length = 2 := fun l hl => by
  rcases List.mem_append.1 hl with h1 | h1
  · obtain ⟨x, _, rfl⟩ := List.mem_map.1 h1; rfl
  · exact h l h1
theorem fdE2_at {L : List Fd} {R : List (List Value)} {k : Nat} (hk : k < L.length) : (L.map fdE2 ++ R)[k]? = some [.string L[k].1, .string L[k].2] := by
  rw [List.getElem?_append_left (by rw [List.length_map]; exact hk), List.getElem?_map, List.getElem?_eq_getElem hk]; rfl
theorem fdE2_set {L : List Fd} {R : List (List Value)} {k : Nat} (hk : k < L.length) (x : Fd) : (L.map fdE2 ++ R).set k [.string x.1, .string x.2] = (L.set k x).map fdE2 ++ R := by
  rw [List.set_append_left _ _ (by rw [List.length_map]; exact hk), List.map_set]; rfl

/-- What such a row's first elements read as, also behind a clearing of the others. -/
theorem RowE.head {w w' : World} {g e i c : Nat} {L : List Fd} {R : List (List Value)} (hg : RowE w g e (L.map fdE2 ++ R)) (hi : i ≤ L.length) (hic : i ≤ c) (hc : c ≤ maxLen) (hz : ∀ x ∈ L, x.1.size ≤ maxLen ∧ x.2.size ≤ maxLen)
    (hk : ∀ o, o < i * 2 → w'.cell? ⟨g, o, none⟩ = w.cell? ⟨g, o, none⟩) : SlF w' (some ⟨g, 0, none⟩) i c (L.take i) := by
  have hg : w.heap[g]? = some (.cells (fdC L ++ R.flatten).toArray e (0, 0)) := by rw [← fdE2_flat, ← List.flatten_append]; exact hg
  refine ⟨by rw [List.length_take]; omega, hic, hc, (fun e => by cases e), fun _ => ⟨_, rfl, fun j x hx => ?_⟩, fun x hx => hz x (List.mem_of_mem_take hx)⟩
  have hj : j < i := by
    have := (List.getElem?_eq_some_iff.1 hx).1
    rw [List.length_take] at this; omega
  have hx2 : L[j]? = some x := by rw [List.getElem?_take, if_pos hj] at hx; exact hx
  have hl : (fdC L).length = L.length * 2 := fdC_len L
  obtain ⟨h1, h2⟩ := fdC_at L j x hx2
  rw [addr_add, addr_add, hk _ (by omega), hk _ (by omega), cell_of_row _ _ _ _ _ _ hg, cell_of_row _ _ _ _ _ _ hg]
  refine ⟨?_, ?_⟩
  · rw [List.getElem?_toArray, List.getElem?_append_left (by omega), h1]
  · rw [List.getElem?_toArray, List.getElem?_append_left (by omega), h2]

theorem zeros_flat (a b : Value) : ∀ n : Nat, (List.replicate n [a, b]).flatten.length = n * 2
  | 0 => rfl
  | n + 1 => by rw [List.replicate_succ, List.flatten_cons, List.length_append, zeros_flat a b n, List.length_cons, List.length_cons, List.length_nil]; omega
/-- 'clear(row[i:])' on elements of two cells. -/
theorem run_clear2 {P : Program} (w : World) (t e ty : TypeId) (z a b : Value) (ht : P.underlying t = some (.slice e)) (hI : ((P.info? e).map (·.zero)) = some (some z)) (hz : z.cells = #[a, b]) (h1 : a.oneCell' = true) (h2 : b.oneCell' = true) (g i n c m : Nat) (hn : 0 < n)
    (L : List (List Value)) (hg : RowE w g e L) (hL : ∀ l ∈ L, l.length = 2) (hi : i + n ≤ L.length) (hm : m = i * 2) :
    (Builtin.clear_ #[t] ty #[.slice (some ⟨g, m, none⟩) n c]).run P w = .ok (.tuple #[]) (w.setCells g m (List.replicate n [a, b]).flatten) := by
  subst hm
  have hzc : (Builtin.zeroCells z.cells n).toList = (List.replicate n [a, b]).flatten := by
    rw [hz, ← made_flat [a, b] n (by simp)]
    rfl
  have hfl := flat_len hL
  have hlen := zeros_flat a b n
  have hle : (i + n) * 2 ≤ L.length * 2 := Nat.mul_le_mul_right _ hi
  have hst := run_storeCells_cells (P := P) g (i * 2) (List.replicate n [a, b]).flatten 0 w
    (fun j hj => by
      rw [hlen] at hj
      rw [cell_of_row _ _ _ _ _ _ hg, Array.getElem?_eq_getElem (show i * 2 + 0 + j < L.flatten.toArray.size by rw [List.size_toArray]; omega)]
      rfl)
    (fun j hj => frozen_of_row _ _ _ _ _ hg)
    (fun v hv => by
      obtain ⟨l, hl, hv⟩ := List.mem_flatten.1 hv
      rw [(List.mem_replicate.1 hl).2] at hv
      simp only [List.mem_cons, List.not_mem_nil, or_false] at hv
      rcases hv with rfl | rfl
      · exact h1
      · exact h2)
  simp only [Nat.add_zero] at hst
  obtain ⟨k, rfl⟩ : ∃ k, n = k + 1 := ⟨n - 1, by omega⟩
  obtain ⟨ie, hie, he⟩ := Option.map_eq_some_iff.1 hI
  have hv : ∀ w, (zeroValue e).run P w = .ok z w := fun w => by simp [zeroValue, typeInfo, hie, he]
  simp [Builtin.clear_, run_underlying ht, hv, hzc, hst]

theorem below_cells {B g : Nat} {w0 : World} (hB : B ≤ g) : ∀ (vs : List Value) (o : Nat) (w : World), Below B w0 w → Below B w0 (w.setCells g o vs)
  | [], _, _, h => h
  | _ :: vs, o, _, h => below_cells hB vs (o + 1) _ (h.setCell hB _)

/-- How far a deletion is: the first i of M are what is kept of the first j of L, behind j nothing has changed. -/
structure DelI (L : List Fd) (q : Fd → Bool) (M : List Fd) (i j : Nat) : Prop where
  len : M.length = L.length
  lt : i < j
  le : j ≤ L.length
  done : M.take i = (L.take j).filter q
  rest : ∀ t, j ≤ t → M[t]? = L[t]?
  sub : ∀ x ∈ M, x ∈ L
theorem DelI.start {L : List Fd} {q : Fd → Bool} {k : Nat} (hk : k < L.length) (h0 : q L[k] = false) (h1 : ∀ j (hj : j < k), q (L[j]'(by omega)) = true) : DelI L q L k (k + 1) := by
  refine ⟨rfl, by omega, by omega, ?_, fun _ _ => rfl, fun _ h => h⟩
  rw [List.take_succ_eq_append_getElem hk, List.filter_append, List.filter_cons, h0]
  have : (L.take k).filter q = L.take k := by
    rw [List.filter_eq_self]
    intro x hx
    obtain ⟨j, hj, rfl⟩ := List.getElem_of_mem hx
    rw [List.length_take] at hj
    rw [List.getElem_take]
    exact h1 j (by omega)
  rw [this]
  simp
theorem DelI.skip {L M : List Fd} {q : Fd → Bool} {i j : Nat} (h : DelI L q M i j) (hj : j < L.length) (hq : q L[j] = false) : DelI L q M i (j + 1) := by
  refine ⟨h.len, by have := h.lt; omega, hj, ?_, fun t ht => h.rest t (by omega), h.sub⟩
  rw [h.done, List.take_succ_eq_append_getElem hj, List.filter_append, List.filter_cons, hq]
  simp
theorem DelI.keep {L M : List Fd} {q : Fd → Bool} {i j : Nat} (h : DelI L q M i j) (hj : j < L.length) (hq : q L[j] = true) : DelI L q (M.set i L[j]) (i + 1) (j + 1) := by
  have hi : i < M.length := by have := h.lt; have := h.len; omega
  refine ⟨by rw [List.length_set]; exact h.len, by have := h.lt; omega, hj, ?_, fun t ht => ?_, fun x hx => ?_⟩
  · have hi2 : i < (M.set i L[j]).length := by rw [List.length_set]; exact hi
    rw [List.take_succ_eq_append_getElem hi2, List.getElem_set_self, List.take_set_of_le (Nat.le_refl _), h.done, List.take_succ_eq_append_getElem hj, List.filter_append, List.filter_cons, hq]
    simp
  · rw [List.getElem?_set_ne (by have := h.lt; omega)]
    exact h.rest t (by omega)
  · rcases List.mem_or_eq_of_mem_set hx with h1 | rfl
    · exact h.sub x h1
    · exact List.getElem_mem hj

/-- A test of fields, where memory from block 'base' on may have changed. -/
def PredO (base : Nat) (w : World) (g : Nat) (caps : Array Value) (p : Fd → Bool) : Prop :=
  ∀ (W : World) (x : Fd), Below base w W → Bd x → Calls Tryz.prog g (#[fdV x] ++ caps) W fun e w' => e = .returned (.bool (p x)) ∧ Below W.heap.size W w'

set_option maxHeartbeats 8000000 in
set_option maxRecDepth 100000 in
theorem del_any (v : Value) (L : List Fd) (base : Nat) (w0 w : World) (h : OwnF w base 43 v L) (hbase : base ≤ w0.heap.size) (hb0 : Below base w0 w) (hn : L.length ≤ 1000000) (hB : ∀ x ∈ L, Bd x) (g : Nat) (caps : Array Value) (p : Fd → Bool)
    (eg : ∀ args W, (callFunc g args).run Tryz.prog W = .ok (.enter g args) W) (hp : PredO base w0 g caps p) :
    Calls Tryz.prog 96 #[v, .func (.func g) #[] caps] w fun e w' => ∃ A c, e = .returned (.slice A (L.filter fun x => !p x).length c) ∧ SlF w' A (L.filter fun x => !p x).length c (L.filter fun x => !p x) ∧ Below base w0 w' := by
  have hz : ∀ x ∈ L, x.1.size ≤ maxLen ∧ x.2.size ≤ maxLen := fun x hx => ⟨(hB x hx).one, (hB x hx).two⟩
  obtain ⟨A, c, rfl, hF⟩ := h.slf hz
  have CI := Lib.hid (idxF_any A L.length c L w hF (by omega) hB g caps p eg (fun W x hW hx => hp W x (hb0.trans (hW.mono (Nat.le_trans hbase hb0.size))) hx))
  rcases idxP_cases p L with ⟨e1, hall⟩ | ⟨k0, hk0, e1, hk1, hk2⟩
  · rw [e1] at CI
    have hfl : (L.filter fun x => !p x) = L := by
      rw [List.filter_eq_self]
      intro x hx
      rw [hall x hx]; rfl
    rw [hfl]
    have HF := Lib.hid hF
    obtain ⟨n, hl⟩ : ∃ n, L.length = n := ⟨_, rfl⟩
    rw [hl] at CI HF ⊢
    clear h hF hp hall e1 hfl hn hz hB hl
    go_enter Tryz.func96, Tryz.ntmps96
    go_wp2_with fail
    refine CI.out.mono ?_
    rintro e w1 ⟨rfl, hb1⟩
    have HB := Lib.hid (hb0.trans (hb1.mono (Nat.le_trans hbase hb0.size)))
    have HF := Lib.hid (HF.out.below hb1)
    clear hb1 CI
    go_wp2_with fail
    go_ret
    exact ⟨A, c, rfl, HF.out, HB.out⟩
  · rw [e1] at CI
    obtain ⟨gg, cap, R, hv, hgg, hcap, hcm, hrow, hR⟩ := h.row (by omega)
    simp only [Value.slice.injEq, true_and] at hv
    obtain ⟨rfl, rfl⟩ := hv
    have HK0 := Lib.hid (DelI.start (q := fun x => !p x) hk0 (by simp [hk1]) (fun j hj => by simp [hk2 j hj]))
    have HR := Lib.hid hrow
    have HP := Lib.hid hp
    have HRR := Lib.hid hR
    have HZ := Lib.hid hz
    have HBd := Lib.hid hB
    obtain ⟨n, hl⟩ : ∃ n, L.length = n := ⟨_, rfl⟩
    have HL := Lib.hid hl
    rw [hl] at CI hcap hn hk0 ⊢
    have hi0 : (k0 : Int) < (n : Int) := by omega
    have hi1 : (n : Int) ≤ 1000000 := by omega
    have hne1 : ((k0 : Int) == -1) = false := beq_eq_false_iff_ne.2 (by omega)
    clear h hF hp hk1 hk2 e1 hz hB hrow hR hl
    go_enter Tryz.func96, Tryz.ntmps96
    go_wp2_with fail
    refine CI.out.mono ?_
    rintro e w1 ⟨rfl, hb1⟩
    have HB := Lib.hid (hb0.trans (hb1.mono (Nat.le_trans hbase hb0.size)))
    have HR := Lib.hid (HR.out.below hb1)
    clear hb1 CI
    go_wp2_with fail
    go_loopw [5, 6] (fun i j wr => ∃ (a b : Nat) (M : List Fd), i = .int .i64 (a : Int) ∧ j = .int .i64 (b : Int) ∧ Hid (DelI L (fun x => !p x) M a b) ∧ Hid (RowE wr gg 43 (M.map fdE2 ++ R)) ∧ Hid (Below base w0 wr)) (fun _ j _ => n - (intOf j).toNat)
    case atStart => exact ⟨k0, k0 + 1, L, rfl, by go_num, HK0.out, HR.out, HB.out⟩
    case round =>
      clear HB HR HK0
      obtain ⟨a, b, M, rfl, rfl, hI, HR, HB⟩ := hrel
      have hab := hI.out.lt
      have hbn : b ≤ n := by rw [← HL.out]; exact hI.out.le
      have hml : M.length = n := by rw [← HL.out]; exact hI.out.len
      have hrl := fdE2_len (L := M) HRR.out
      by_cases hlt : b < n
      · have hbL : b < L.length := by rw [HL.out]; exact hlt
        have hbM : b < M.length := by omega
        have haM : a < M.length := by omega
        have hMb : M[b] = L[b] := by
          have := hI.out.rest b (Nat.le_refl _)
          rw [List.getElem?_eq_getElem hbM, List.getElem?_eq_getElem hbL] at this
          exact Option.some.inj this
        obtain ⟨c0, c1, _, _⟩ := HR.out.at2 (k := b) hrl (fdE2_at hbM)
        rw [hMb] at c0 c1
        have HAT := Lib.hid (fun (W : World) (hW : RowE W gg 43 (M.map fdE2 ++ R)) => hW.at2 (k := a) hrl (fdE2_at haM))
        have HSET := Lib.hid (fun (W : World) (hW : RowE W gg 43 (M.map fdE2 ++ R)) (x : Fd) => fdE2_set (R := R) haM x ▸ hW.set2 (k := a) hrl (by rw [List.length_append, List.length_map]; omega) (.string x.1) (.string x.2))
        have hbd := HBd.out _ (List.getElem_mem hbL)
        have HN1 := Lib.hid (fun h => hI.out.keep hbL h)
        have HN2 := Lib.hid (fun h => hI.out.skip hbL h)
        generalize L[b] = x at *
        generalize M[a] = y at *
        obtain ⟨xa, xb⟩ := x
        simp only at c0 c1
        have hcall := HP.out (wr.alloc (.cells #[.string xa, .string xb] 43)) (xa, xb) (HB.out.alloc (Nat.le_trans hbase HB.out.size) _) hbd
        unfold fdV at hcall
        have HC := Lib.hid hcall
        have HBa := Lib.hid (HB.out.alloc (Nat.le_trans hbase HB.out.size) (.cells #[.string xa, .string xb] 43))
        have HRa := Lib.hid (HR.out.alloc (.cells #[.string xa, .string xb] 43))
        have hi2 : (b : Int) < (n : Int) := by omega
        have hi3 : (a : Int) < (n : Int) := by omega
        clear hcall hI hMb hbL hbM haM hrl hml hab hbn
        cases hq : p (xa, xb) with
        | true =>
          have HN := Lib.hid (HN2.out (by simp [hq]))
          rw [hq] at HC
          clear hq HN1 HN2 HAT HSET
          go_wp2_with fail
          refine HC.out.mono ?_
          rintro e w1 ⟨rfl, hb1⟩
          have HB1 := Lib.hid (HBa.out.trans (hb1.mono (Nat.le_trans hbase HBa.out.size)))
          have HR1 := Lib.hid (HRa.out.below hb1)
          clear hb1 HC HB HR HBa HRa
          go_wp2_with fail
          go_roundw
          case rel => exact ⟨a, b + 1, M, rfl, by go_num, HN.out, HR1.out, HB1.out⟩
          case measure => simp [intOf]; omega
        | false =>
          have HN := Lib.hid (HN1.out (by simp [hq]))
          rw [hq] at HC
          clear hq HN1 HN2
          go_wp2_with fail
          refine HC.out.mono ?_
          rintro e w1 ⟨rfl, hb1⟩
          have HB1 := Lib.hid (HBa.out.trans (hb1.mono (Nat.le_trans hbase HBa.out.size)))
          have HR1 := Lib.hid (HRa.out.below hb1)
          obtain ⟨z0, z1⟩ := zero_two (zero_at hb1)
          obtain ⟨x0, x1, x2, x3⟩ := HAT.out _ HR1.out
          clear hb1 HC HB HR HBa HRa c0 c1
          go_wp2_with fail
          go_roundw
          case rel => exact ⟨a + 1, b + 1, _, by go_num, by go_num, HN.out, HSET.out _ HR1.out (xa, xb), below_pair HB1.out hgg _ _⟩
          case measure => simp [intOf]; omega
      · obtain rfl : b = n := by omega
        have hdone := hI.out.done
        rw [← HL.out, List.take_length] at hdone
        have hF := fun (w' : World) hk => HR.out.head (w' := w') (i := a) (c := c) (by omega) (by omega) hcm (fun x hx => HZ.out x (hI.out.sub x hx)) hk
        rw [hdone] at hF
        have hfl : (L.filter fun x => !p x).length = a := by rw [← hdone, List.length_take]; omega
        have hcl : ∀ ty, (Builtin.clear_ #[22] ty #[.slice (some ⟨gg, a * 2, none⟩) (b - a) (c - a)]).run Tryz.prog wr = .ok (.tuple #[]) (wr.setCells gg (a * 2) (List.replicate (b - a) [Value.string ⟨#[]⟩, .string ⟨#[]⟩]).flatten) :=
          fun ty => run_clear2 wr _ 43 ty (.agg #[.string ⟨#[]⟩, .string ⟨#[]⟩]) _ _ Tryz.underlying22 (by kernel_rfl) rfl rfl rfl gg a (b - a) (c - a) (a * 2) (by omega) _ HR.out hrl (by rw [List.length_append, List.length_map]; omega) rfl
        have HFL := Lib.hid hfl
        have HF := Lib.hid hF
        have HBZ := Lib.hid (fun vs => below_cells hgg vs (a * 2) wr HB.out)
        have HO := Lib.hid (fun (vs : List Value) o (ho : o < a * 2) => World.cell?_setCells_out gg vs (a * 2) wr ⟨gg, o, none⟩ (fun _ _ => .inl ho))
        generalize (List.replicate (b - a) [Value.string ⟨#[]⟩, .string ⟨#[]⟩]).flatten = ZZ at *
        have hi2 : ¬ (b : Int) < (b : Int) := by omega
        have hi3 : (a : Int) < (b : Int) := by omega
        have hi4 : (b : Int) ≤ (c : Int) := by omega
        clear hF hdone hI hrl hml hfl
        go_wp2_with fail
        go_ret
        exact ⟨_, _, by rw [HFL.out]; rfl, by rw [HFL.out]; exact HF.out _ (HO.out ZZ), HBZ.out ZZ⟩

end Go.Proofs.YtjkfdjolhmgemaaGreatDoor
end
