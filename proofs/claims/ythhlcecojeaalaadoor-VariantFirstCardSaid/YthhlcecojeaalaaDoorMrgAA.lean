/-
  Texts that the laws of this seat lean on, one behind the other.
-/
import Derived.Test.YthhlcecojeaalaaDoorMrgZ
import Derived.Test.YthhlcecojeaalaaDoorMrgX
import Derived.Deep.RegionHeld3
import Derived.Deep.AppendLies
set_option linter.unusedSimpArgs false
set_option linter.unusedVariables false
/-
  Contracts of the reference's Same, Picks, Match, Few, FewNames (layer 15).
-/
section
namespace Go.Proofs.YthhlcecojeaalaaDoor
open Go.RowKit
set_option linter.unusedSimpArgs false

theorem pk_at1 {w : World} {ad : Addr} {m : Nat} {v : Value} (h : w.cell? (ad.add (m + 1)) = some v) : w.cell? { block := (ad.add m).block, off := (ad.add m).off + 1 } = some v := by
  rw [← Go.Addr.add_add] at h
  rwa [Addr.add_succ'] at h
theorem pk_at2 {w : World} {ad : Addr} {m : Nat} {v : Value} (h : w.cell? (ad.add (m + 2)) = some v) : w.cell? { block := (ad.add m).block, off := (ad.add m).off + 2 } = some v := by
  rw [← Go.Addr.add_add, show (2 : Nat) = 1 + 1 from rfl] at h
  rwa [Addr.add_succ'] at h
theorem pksB_len : ∀ (L M : List Pk), L.length ≠ M.length → pksB L M = false
  | [], [], h => absurd rfl h
  | [], _ :: _, _ => rfl
  | _ :: _, [], _ => rfl
  | x :: a, y :: b, h => by
    unfold pksB
    rw [pksB_len a b (fun e => h (by simp [e]))]; simp
theorem pksB_drop (L M : List Pk) (k : Nat) (h : k < L.length) (g : k < M.length) : pksB (L.drop k) (M.drop k) = (pkE L[k] M[k] && pksB (L.drop (k + 1)) (M.drop (k + 1))) := by
  rw [List.drop_eq_getElem_cons h, List.drop_eq_getElem_cons g]; rfl
theorem pkE_refl (x : Pk) : pkE x x = true := by simp [pkE]
theorem pksB_refl : ∀ L : List Pk, pksB L L = true
  | [] => rfl
  | x :: L => by unfold pksB; rw [pkE_refl, pksB_refl L]; rfl

set_option maxHeartbeats 8000000 in
set_option maxRecDepth 100000 in
theorem r_pkSame (A B : Option Addr) (n c m d : Nat) (L M : List Pk) (w : World) (h : SlK w A n c L) (h' : SlK w B m d M) (hn : n ≤ 100000000) :
    Calls Tryd.prog 25 #[.slice A n c, .slice B m d] w fun e w' => e = .returned (.bool (pksB L M)) ∧ Below w.heap.size w w' := by
  have hlen := h.len
  have hlem := h'.len
  subst hlen hlem
  by_cases hl : L.length = M.length
  · have hlb : ((L.length : Int) == (M.length : Int)) = true := by rw [hl]; simp
    have hlc : ((L.length : Int) != (M.length : Int)) = false := by rw [hl]; simp
    have HLM := Lib.hid hl
    clear hl
    go_enter Tryd.func25, Tryd.ntmps25
    go_wp2_with fail
    go_loopw [5] (fun i wr => ∃ k : Nat, k ≤ L.length ∧ i = .int .i64 k ∧ Hid (pksB L M = pksB (L.drop k) (M.drop k)) ∧ Below w.heap.size w wr) (fun i _ => L.length - (intOf i).toNat)
    case atStart => exact ⟨0, Nat.zero_le _, rfl, rfl, Below.refl _ _⟩
    case round =>
      obtain ⟨k, hk, rfl, hf, hbel⟩ := hrel
      by_cases hlt : k < L.length
      · have hlt2 : k < M.length := by have := HLM.out; omega
        obtain ⟨ad, rfl, hc⟩ := h.at_ (by omega)
        obtain ⟨bd, rfl, hd⟩ := h'.at_ (by omega)
        obtain ⟨hc0, hc1, hc2⟩ := hc k L[k] (List.getElem?_eq_getElem hlt)
        obtain ⟨hd0, hd1, hd2⟩ := hd k M[k] (List.getElem?_eq_getElem hlt2)
        have HS := Lib.hid (pksB_drop L M k hlt hlt2)
        generalize L[k] = x at *
        generalize M[k] = y at *
        obtain ⟨xn, xh, xv⟩ := x
        obtain ⟨yn, yh, yv⟩ := y
        have HC0 := Lib.hid (cell_kept hbel.drew hc0)
        have HC1 := Lib.hid (pk_at1 (cell_kept hbel.drew hc1))
        have HC2 := Lib.hid (pk_at2 (cell_kept hbel.drew hc2))
        have HD0 := Lib.hid (cell_kept hbel.drew hd0)
        have HD1 := Lib.hid (pk_at1 (cell_kept hbel.drew hd1))
        have HD2 := Lib.hid (pk_at2 (cell_kept hbel.drew hd2))
        have hA : pkE ⟨xn, xh, xv⟩ ⟨yn, yh, yv⟩ = ((xn.toList == yn.toList) && (xh == yh) && (xv.toList == yv.toList)) := rfl
        rw [hA] at HS
        have hi0 : (0 : Int) ≤ (k : Int) := by omega
        have hi1 : (k : Int) < (L.length : Int) := by omega
        have hi2 : (k : Int) < (M.length : Int) := by omega
        have hbel := hbel.drew
        clear hc hd hc0 hc1 hc2 hd0 hd1 hd2 hA
        have both : ∀ t : Bool, t = true ∨ t = false := fun t => by cases t <;> simp
        cases xh with
        | true =>
          cases yh with
          | true =>
            rcases both (xn.toList == yn.toList) with hT | hT
            · rcases both (xv.toList == yv.toList) with hS | hS
              · have HR : Hid (pksB L M = pksB (L.drop (k + 1)) (M.drop (k + 1))) := by
                  show _ = _
                  rw [hf.out, HS.out, hS, hT]; simp
                clear HS hf
                go_wp2_with fail
                go_region_held3 (fun W => W.cell? (ad.add (k * 3)) = some (.string xn) ∧ W.cell? { block := (ad.add (k * 3)).block, off := (ad.add (k * 3)).off + 1 } = some (.bool true) ∧ W.cell? { block := (ad.add (k * 3)).block, off := (ad.add (k * 3)).off + 2 } = some (.string xv) ∧ W.cell? (bd.add (k * 3)) = some (.string yn) ∧ W.cell? { block := (bd.add (k * 3)).block, off := (bd.add (k * 3)).off + 1 } = some (.bool true) ∧ W.cell? { block := (bd.add (k * 3)).block, off := (bd.add (k * 3)).off + 2 } = some (.string yv)) (exact ⟨HC0.out, HC1.out, HC2.out, HD0.out, HD1.out, HD2.out⟩) (fail)
                go_wp2_with fail
                go_roundw
                case rel => exact ⟨k + 1, by omega, by go_num, HR, hbel⟩
                case measure => simp [intOf]; omega
              · skip
                have HR : Hid (pksB L M = false) := by
                  show _ = _
                  rw [hf.out, HS.out, hS]; simp
                clear HS hf
                go_wp2_with fail
                go_region_held3 (fun W => W.cell? (ad.add (k * 3)) = some (.string xn) ∧ W.cell? { block := (ad.add (k * 3)).block, off := (ad.add (k * 3)).off + 1 } = some (.bool true) ∧ W.cell? { block := (ad.add (k * 3)).block, off := (ad.add (k * 3)).off + 2 } = some (.string xv) ∧ W.cell? (bd.add (k * 3)) = some (.string yn) ∧ W.cell? { block := (bd.add (k * 3)).block, off := (bd.add (k * 3)).off + 1 } = some (.bool true) ∧ W.cell? { block := (bd.add (k * 3)).block, off := (bd.add (k * 3)).off + 2 } = some (.string yv)) (exact ⟨HC0.out, HC1.out, HC2.out, HD0.out, HD1.out, HD2.out⟩) (fail)
                go_wp2_with fail
                go_ret
                exact ⟨by rw [HR.out]; rfl, hbel⟩
            · skip
              have HR : Hid (pksB L M = false) := by
                show _ = _
                rw [hf.out, HS.out, hT]; simp
              clear HS hf
              go_wp2_with fail
              go_region_held3 (fun W => W.cell? (ad.add (k * 3)) = some (.string xn) ∧ W.cell? { block := (ad.add (k * 3)).block, off := (ad.add (k * 3)).off + 1 } = some (.bool true) ∧ W.cell? { block := (ad.add (k * 3)).block, off := (ad.add (k * 3)).off + 2 } = some (.string xv) ∧ W.cell? (bd.add (k * 3)) = some (.string yn) ∧ W.cell? { block := (bd.add (k * 3)).block, off := (bd.add (k * 3)).off + 1 } = some (.bool true) ∧ W.cell? { block := (bd.add (k * 3)).block, off := (bd.add (k * 3)).off + 2 } = some (.string yv)) (exact ⟨HC0.out, HC1.out, HC2.out, HD0.out, HD1.out, HD2.out⟩) (fail)
              go_wp2_with fail
              go_ret
              exact ⟨by rw [HR.out]; rfl, hbel⟩
          | false =>
            have HR : Hid (pksB L M = false) := by
              show _ = _
              rw [hf.out, HS.out]; simp
            clear HS hf
            go_wp2_with fail
            go_region_held3 (fun W => W.cell? (ad.add (k * 3)) = some (.string xn) ∧ W.cell? { block := (ad.add (k * 3)).block, off := (ad.add (k * 3)).off + 1 } = some (.bool true) ∧ W.cell? { block := (ad.add (k * 3)).block, off := (ad.add (k * 3)).off + 2 } = some (.string xv) ∧ W.cell? (bd.add (k * 3)) = some (.string yn) ∧ W.cell? { block := (bd.add (k * 3)).block, off := (bd.add (k * 3)).off + 1 } = some (.bool false) ∧ W.cell? { block := (bd.add (k * 3)).block, off := (bd.add (k * 3)).off + 2 } = some (.string yv)) (exact ⟨HC0.out, HC1.out, HC2.out, HD0.out, HD1.out, HD2.out⟩) (fail)
            go_wp2_with fail
            go_ret
            exact ⟨by rw [HR.out]; rfl, hbel⟩
        | false =>
          cases yh with
          | true =>
            have HR : Hid (pksB L M = false) := by
              show _ = _
              rw [hf.out, HS.out]; simp
            clear HS hf
            go_wp2_with fail
            go_region_held3 (fun W => W.cell? (ad.add (k * 3)) = some (.string xn) ∧ W.cell? { block := (ad.add (k * 3)).block, off := (ad.add (k * 3)).off + 1 } = some (.bool false) ∧ W.cell? { block := (ad.add (k * 3)).block, off := (ad.add (k * 3)).off + 2 } = some (.string xv) ∧ W.cell? (bd.add (k * 3)) = some (.string yn) ∧ W.cell? { block := (bd.add (k * 3)).block, off := (bd.add (k * 3)).off + 1 } = some (.bool true) ∧ W.cell? { block := (bd.add (k * 3)).block, off := (bd.add (k * 3)).off + 2 } = some (.string yv)) (exact ⟨HC0.out, HC1.out, HC2.out, HD0.out, HD1.out, HD2.out⟩) (fail)
            go_wp2_with fail
            go_ret
            exact ⟨by rw [HR.out]; rfl, hbel⟩
          | false =>
            rcases both (xn.toList == yn.toList) with hT | hT
            · rcases both (xv.toList == yv.toList) with hS | hS
              · have HR : Hid (pksB L M = pksB (L.drop (k + 1)) (M.drop (k + 1))) := by
                  show _ = _
                  rw [hf.out, HS.out, hS, hT]; simp
                clear HS hf
                go_wp2_with fail
                go_region_held3 (fun W => W.cell? (ad.add (k * 3)) = some (.string xn) ∧ W.cell? { block := (ad.add (k * 3)).block, off := (ad.add (k * 3)).off + 1 } = some (.bool false) ∧ W.cell? { block := (ad.add (k * 3)).block, off := (ad.add (k * 3)).off + 2 } = some (.string xv) ∧ W.cell? (bd.add (k * 3)) = some (.string yn) ∧ W.cell? { block := (bd.add (k * 3)).block, off := (bd.add (k * 3)).off + 1 } = some (.bool false) ∧ W.cell? { block := (bd.add (k * 3)).block, off := (bd.add (k * 3)).off + 2 } = some (.string yv)) (exact ⟨HC0.out, HC1.out, HC2.out, HD0.out, HD1.out, HD2.out⟩) (fail)
                go_wp2_with fail
                go_roundw
                case rel => exact ⟨k + 1, by omega, by go_num, HR, hbel⟩
                case measure => simp [intOf]; omega
              · skip
                have HR : Hid (pksB L M = false) := by
                  show _ = _
                  rw [hf.out, HS.out, hS]; simp
                clear HS hf
                go_wp2_with fail
                go_region_held3 (fun W => W.cell? (ad.add (k * 3)) = some (.string xn) ∧ W.cell? { block := (ad.add (k * 3)).block, off := (ad.add (k * 3)).off + 1 } = some (.bool false) ∧ W.cell? { block := (ad.add (k * 3)).block, off := (ad.add (k * 3)).off + 2 } = some (.string xv) ∧ W.cell? (bd.add (k * 3)) = some (.string yn) ∧ W.cell? { block := (bd.add (k * 3)).block, off := (bd.add (k * 3)).off + 1 } = some (.bool false) ∧ W.cell? { block := (bd.add (k * 3)).block, off := (bd.add (k * 3)).off + 2 } = some (.string yv)) (exact ⟨HC0.out, HC1.out, HC2.out, HD0.out, HD1.out, HD2.out⟩) (fail)
                go_wp2_with fail
                go_ret
                exact ⟨by rw [HR.out]; rfl, hbel⟩
            · skip
              have HR : Hid (pksB L M = false) := by
                show _ = _
                rw [hf.out, HS.out, hT]; simp
              clear HS hf
              go_wp2_with fail
              go_region_held3 (fun W => W.cell? (ad.add (k * 3)) = some (.string xn) ∧ W.cell? { block := (ad.add (k * 3)).block, off := (ad.add (k * 3)).off + 1 } = some (.bool false) ∧ W.cell? { block := (ad.add (k * 3)).block, off := (ad.add (k * 3)).off + 2 } = some (.string xv) ∧ W.cell? (bd.add (k * 3)) = some (.string yn) ∧ W.cell? { block := (bd.add (k * 3)).block, off := (bd.add (k * 3)).off + 1 } = some (.bool false) ∧ W.cell? { block := (bd.add (k * 3)).block, off := (bd.add (k * 3)).off + 2 } = some (.string yv)) (exact ⟨HC0.out, HC1.out, HC2.out, HD0.out, HD1.out, HD2.out⟩) (fail)
              go_wp2_with fail
              go_ret
              exact ⟨by rw [HR.out]; rfl, hbel⟩
      · have HR : Hid (pksB L M = true) := by
          show _ = _
          rw [hf.out, List.drop_eq_nil_of_le (by omega), List.drop_eq_nil_of_le (by have := HLM.out; omega)]; rfl
        clear hf
        go_wp2_with fail
        go_ret
        exact ⟨by rw [HR.out]; rfl, hbel⟩
  · have hlb : ((L.length : Int) == (M.length : Int)) = false := by rw [beq_eq_false_iff_ne]; omega
    have HR := Lib.hid (pksB_len L M hl)
    clear hl
    go_enter Tryd.func25, Tryd.ntmps25
    go_wp2_with fail
    go_ret
    exact ⟨by rw [HR.out]; rfl, Below.refl _ _⟩


/-- 'append(out, xs...)' on picks at a step of a region that draws its order: out the call's own, xs not nil. -/
theorem step_append_slk {P : Program} {ops : Array Oper} {o : Oper} {a : Act} {w : World} {K : Act → World → Prop} {Q : Exit → Act → World → Prop} {E : Prop} (hgd : o.guard = none) (s x : Operand) (t : TypeId)
    (ho : o.op = .call { callee := .builtin .append, args := #[s, x], argTypes := #[t, t] }) (base e : Nat) (ht : P.underlying t = some (.slice e))
    (hI : (P.info? e).map (fun i => (i.zero, i.size, i.bytes)) = some (some (.agg #[.string ⟨#[]⟩, .bool false, .string ⟨#[]⟩]), 3, 40)) (v : Value) (hs : a.eval s = v) (X : List Pk) (hown : OwnK w base e v X)
    (ad : Addr) (m c : Nat) (hx : a.eval x = .slice (some ad) m c) (Y : List Pk) (hY : SlK w (some ad) m c Y) (hm : 0 < m) (hlen : X.length + Y.length ≤ 100000000) (hbase : base ≤ w.heap.size) (w0 : World) (hb : Below base w0 w)
    (h : ∀ v' w', Hid (OwnK w' base e v' (X ++ Y)) → Below base w0 w' → w.heap.size ≤ w'.heap.size → K (a.put o.dst v') w') :
    if Region.wanted o (yielded ops a.tmps) = true then Oper.wp P o a w K Q else E := by
  obtain ⟨i0, hi, hz0, hz1, hz2⟩ := info_parts hI
  have hl := hY.len
  refine step_append_lies w hgd s x t ho base e i0 (.agg #[.string ⟨#[]⟩, .bool false, .string ⟨#[]⟩]) 3 40 ht hi hz0 hz1 hz2 rfl (by decide) v _ _ hs hown ad m c (pkC Y) hx (by rw [pkC_len, hl]) hY.news (pkC_ones _) hm (by unfold maxLen; omega) (by omega) hbase _ rfl ?_
  intro g cap w' hown' hgrow _ _
  refine h _ w' ?_ (hb.grown hgrow hbase (fun k hk => (hown.lt k hk).1)) hgrow.size
  show World.ownsRow _ _ _ _ _ _ _
  rw [List.length_append, hl, pkC_append]
  exact hown'
theorem SlK.oneAt (w : World) (t : TypeId) (x : Pk) (hz : x.n.size ≤ maxLen ∧ x.v.size ≤ maxLen) {g : Nat} (hg : w.heap.size = g) : SlK (w.alloc (.cells #[.string x.n, .bool x.h, .string x.v] t)) (some ⟨g, 0, none⟩) 1 1 [x] := by
  subst hg
  exact SlK.one w t x hz
theorem pks_snoc (N : List (List UInt8)) (L : List Fd) (k : Nat) (h : k < N.length) : pksL (N.take (k + 1)) L = pksL (N.take k) L ++ [pkOf L N[k]] := by
  unfold pksL
  rw [List.take_succ_eq_append_getElem h, List.map_append]; rfl
theorem sgl_snoc (V : List (List UInt8)) (j : Nat) (h : j < V.length) : (V.take (j + 1)).map (sglL false) = (V.take j).map (sglL false) ++ [sglL false V[j]] := by
  rw [List.take_succ_eq_append_getElem h, List.map_append]; rfl
/-- Fields that are few and short, names too. -/
def FwF (L : List Fd) : Prop := L.length ≤ 1000 ∧ ∀ x ∈ L, x.2.size ≤ 1000 ∧ x.1.size ≤ 10000
def FwN (N : List (List UInt8)) : Prop := N.length ≤ 1000 ∧ ∀ x ∈ N, x.length ≤ 10000
theorem fw_all {L : List Fd} (h : FwF L) (name : ByteArray) : (fdAll L name).length ≤ 1000 ∧ ∀ x ∈ fdAll L name, x.length ≤ 1000 := by
  refine ⟨?_, fun x hx => ?_⟩
  · have h1 : (fdAll L name).length ≤ L.length := by unfold fdAll; rw [List.length_map]; exact List.length_filter_le _ _
    have := h.1
    omega
  · unfold fdAll at hx
    obtain ⟨y, hy, rfl⟩ := List.mem_map.1 hx
    rw [← Lib.size_eq]
    exact (h.2 y (List.mem_filter.1 hy).1).1
theorem pk_sz {L : List Fd} (h : FwF L) {name : List UInt8} (hn : name.length ≤ 10000) : (pkOf L name).n.size ≤ 10000 ∧ (pkOf L name).v.size ≤ 1002000 := by
  obtain ⟨h1, h2⟩ := fw_all h (mkS name)
  refine ⟨by show (mkS name).size ≤ _; rw [mkS_size]; exact hn, ?_⟩
  show (mkS _).size ≤ _
  rw [mkS_size]
  refine Nat.le_trans (join_le _ 1000 1000 (by rw [List.length_map]; exact h1) fun x hx => ?_) (by decide)
  obtain ⟨y, hy, rfl⟩ := List.mem_map.1 hx
  exact Nat.le_trans (sgl_le _ _) (h2 y hy)
theorem pks_sz {L : List Fd} (h : FwF L) {N : List (List UInt8)} (hn : FwN N) : ∀ x ∈ pksL N L, x.n.size ≤ maxLen ∧ x.v.size ≤ maxLen := fun x hx => by
  obtain ⟨y, hy, rfl⟩ := List.mem_map.1 hx
  have := pk_sz h (hn.2 y hy)
  have : (1002000 : Nat) ≤ maxLen := by decide
  omega
/-- The answer is picks. -/
def IsPk (w : World) (X : List Pk) (e : Ending) (w' : World) : Prop := ∃ A c, e = .returned (.slice A X.length c) ∧ SlK w' A X.length c X ∧ Below w.heap.size w w'

set_option maxHeartbeats 16000000 in
set_option maxRecDepth 100000 in
theorem r_picks (A B : Option Addr) (n c m d : Nat) (N : List (List UInt8)) (L : List Fd) (w : World) (h : SlS w A n c N) (h' : SlF w B m d L) (hN : FwN N) (hL : FwF L) :
    Calls Tryd.prog 47 #[.slice A n c, .slice B m d] w (IsPk w (pksL N L)) := by
  have hlen := h.len
  have hlem := h'.len
  subst hlen hlem
  have hNl := hN.1
  have HPZ := Lib.hid (pks_sz hL hN)
  have HF0 := Lib.hid h'
  have HN0 := Lib.hid hN
  have HL0 := Lib.hid hL
  unfold IsPk
  clear h' hN hL
  go_enter Tryd.func47, Tryd.ntmps47
  go_wp2_with fail
  go_loopw [5, 6] (fun v i wr => ∃ k : Nat, k ≤ N.length ∧ i = .int .i64 k ∧ Hid (OwnK wr w.heap.size 53 v (pksL (N.take k) L)) ∧ Hid (Below w.heap.size w wr)) (fun _ i _ => N.length - (intOf i).toNat)
  case atStart => exact ⟨0, Nat.zero_le _, rfl, OwnK.nil _ _ _, Below.refl _ _⟩
  case round =>
    obtain ⟨k, hk, rfl, HK, HB⟩ := hrel
    by_cases hlt : k < N.length
    · obtain ⟨ad, rfl, hc⟩ := h.at_ (by omega)
      have hcw := hc k N[k] (List.getElem?_eq_getElem hlt)
      have hcell := cell_kept HB.out hcw
      have hi0 : (0 : Int) ≤ (k : Int) := by omega
      have hi1 : (k : Int) < (N.length : Int) := by omega
      have hsn := pks_snoc N L k hlt
      have hzn := HN0.out.2 _ (List.getElem_mem hlt)
      have hps := pk_sz HL0.out hzn
      have hlX : (pksL (N.take k) L).length ≤ 1000 := by unfold pksL; rw [List.length_map, List.length_take]; omega
      generalize N[k] = name at *
      have hms : (mkS name).size ≤ 10000 := by rw [mkS_size]; exact hzn
      have hml : (mkS name).size ≤ maxLen := Nat.le_trans hms (by decide)
      have CA := Lib.hid (fun W (hW : SlF W B L.length d L) => rf_all B L.length d L (mkS name) W hW (by have := HL0.out.1; omega) hml)
      obtain ⟨hv1, hv2⟩ := fw_all HL0.out (mkS name)
      have hpk : pkOf L name = ⟨mkS name, !(fdAll L (mkS name)).isEmpty, mkS (Lib.join ((fdAll L (mkS name)).map (sglL false)) [44, 32])⟩ := rfl
      have HSN := Lib.hid hsn
      have HPS := Lib.hid hps
      have HPK := Lib.hid hpk
      have HV2 := Lib.hid hv2
      have HCW := Lib.hid hcw
      unfold Vals at CA
      generalize fdAll L (mkS name) = V at *
      generalize mkS name = nm at *
      clear hc hsn hzn hps hpk hv2 hcw hms hml
      go_wp2_with fail
      refine (CA.out _ (HF0.out.below HB.out)).mono ?_
      rintro e w1 ⟨A1, c1, rfl, hS, _, hb⟩
      have HS := Lib.hid hS
      have HK := Lib.hid (HK.out.below hb)
      have HB := Lib.hid (below_then HB.out hb)
      clear hS hb hcell
      go_wp2_with fail
      go_loopw [8, 9] (fun v i wr => ∃ j : Nat, j ≤ V.length ∧ i = .int .i64 j ∧ Hid (OwnS wr w1.heap.size 9 v ((V.take j).map (sglL false))) ∧ Hid (Below w1.heap.size w1 wr)) (fun _ i _ => V.length - (intOf i).toNat)
      case atStart => exact ⟨0, Nat.zero_le _, rfl, OwnS.nil _ _ _, Below.refl _ _⟩
      case round =>
        obtain ⟨j, hj, rfl, HO, HQ⟩ := hrel
        by_cases hjl : j < V.length
        · obtain ⟨bd, rfl, hd⟩ := HS.out.at_ (by omega)
          have hcell := cell_kept HQ.out (hd j V[j] (List.getElem?_eq_getElem hjl))
          have hj0 : (0 : Int) ≤ (j : Int) := by omega
          have hj1 : (j : Int) < (V.length : Int) := by omega
          have HT := Lib.hid (sgl_snoc V j hjl)
          have hz := HV2.out _ (List.getElem_mem hjl)
          have hXl : ((V.take j).map (sglL false)).length ≤ 1000 := by rw [List.length_map, List.length_take]; omega
          generalize V[j] = v at *
          have CS := Lib.hid (fun W => r_single (mkS v) (by rw [mkS_size]; omega) W)
          rw [mkS_list] at CS
          generalize mkS v = vv at *
          generalize (V.take j).map (sglL false) = X at *
          obtain ⟨sv, hsv⟩ : ∃ sv, mkS (sglL false v) = sv := ⟨_, rfl⟩
          have hsl : sglL false v = sv.data.toList := by rw [← hsv, mkS_list]
          rw [hsv] at CS
          rw [hsl] at HT
          clear hd hz hsv hsl
          go_wp2_with (first
            | (go_at_call 70; refine (CS.out _).mono ?_; rintro e w2 ⟨rfl, rfl⟩)
            | (at_builtin; refine wpList_append_sls rfl _ _ _ rfl w1.heap.size 9 Tryd.underlying51 (by kernel_rfl) _ rfl X (HO.out.alloc _) _ _ _ rfl [sv.data.toList] (SlS.text _ _ _) (by simp; omega) (by simp; have := HQ.out.size; omega) w1 (HQ.out.alloc HQ.out.size _) ?_; intro v1 w3 ho1 hb1 hz1))
          go_roundw
          case rel => exact ⟨j + 1, by omega, by go_num, by show OwnS _ _ _ _ _; rw [HT.out]; exact ho1.out, hb1⟩
          case measure => simp [intOf]; omega
        · have hj1 : ¬ (j : Int) < (V.length : Int) := by omega
          rw [List.take_of_length_le (by omega)] at HO
          obtain ⟨A2, c2, hv2, hSX, _⟩ := HO.out.sls
          subst hv2
          have hXl : (V.map (sglL false)).length ≤ 1000 := by rw [List.length_map]; omega
          have CJ := Lib.hid (fun W (hW : SlS W A2 (V.map (sglL false)).length c2 (V.map (sglL false))) => r_join A2 _ c2 _ W hW (by omega) (fun x hx => by
            obtain ⟨y, hy, rfl⟩ := List.mem_map.1 hx
            have h1 := sgl_le y false
            have h2 := HV2.out y hy
            omega))
          have CJ := Lib.hid (fun W (hW : SlS W A2 (V.map (sglL false)).length c2 (V.map (sglL false))) => (CJ.out W hW).mono (fun e w' h => (⟨h.1, h.2 ▸ Below.refl _ _⟩ : e = .returned (.string (mkS (Lib.join (V.map (sglL false)) [44, 32]))) ∧ Below W.heap.size W w')))
          have HSX := Lib.hid hSX.drew
          have HK := Lib.hid (HK.out.below HQ.out).drew
          have HB := Lib.hid (below_then HB.out HQ.out).drew
          have hPS := HPS.out
          rw [HPK.out] at hPS
          obtain ⟨J, hJ⟩ : ∃ J, mkS (Lib.join (V.map (sglL false)) [44, 32]) = J := ⟨_, rfl⟩
          rw [hJ] at CJ hPS
          have HJ := Lib.hid hJ
          simp only at hPS
          have hXX : pkOf L name = ⟨nm, !V.isEmpty, J⟩ := by rw [HPK.out, hJ]
          have hml2 : (1002000 : Nat) ≤ maxLen := by decide
          have hpz : nm.size ≤ maxLen ∧ J.size ≤ maxLen := ⟨by omega, by omega⟩
          have HPZ1 := Lib.hid hpz
          have hSnoc := HSN.out
          rw [hXX] at hSnoc
          generalize (V.map (sglL false)).length = vl at *
          generalize V.map (sglL false) = VX at *
          generalize pksL (N.take k) L = X at *
          clear hJ hSX hPS hXX hml2 hpz HO
          rcases Nat.eq_zero_or_pos V.length with hv0 | hv0
          · have hg : ¬ (0 : Int) < (V.length : Int) := by omega
            have hvE : (!V.isEmpty) = false := by cases V <;> simp at hv0 ⊢
            rw [hvE] at hSnoc
            have HSS := Lib.hid hSnoc
            clear hSnoc hvE
            go_wp2_with fail
            go_region_held3 (fun W => W.cell? (ad.add k) = some (.string nm)) (first | exact cell_kept HB.out HCW.out | exact Lib.cell?_alloc_some _ (cell_kept HB.out HCW.out) | go_keep) (first
              | (go_at_call 71; refine (CJ.out _ HSX.out).mono ?_; rintro e w3 ⟨rfl, hb⟩; have HK := Lib.hid (HK.out.below hb); have HB := Lib.hid (below_then HB.out hb); clear hb)
              | (refine step_append_slk (by rfl) _ _ 26 (by rfl) w.heap.size 53 Tryd.underlying26 (by kernel_rfl) _ (by rfl) X (HK.out.alloc _) _ 1 1 (by rfl) [⟨nm, false, J⟩] (SlK.oneAt _ _ ⟨nm, false, J⟩ HPZ1.out rfl) (by omega) (by simp; omega) (Nat.le_trans HB.out.size (by simp)) w (HB.out.alloc HB.out.size _) ?_; intro v2 w4 ho4 hb4 hs4; have HB := Lib.hid hb4))
            go_wp2_with fail
            go_roundw
            case rel => exact ⟨k + 1, by omega, by go_num, by show OwnK _ _ _ _ _; rw [HSS.out]; exact ho4.out, HB.out⟩
            case measure => simp [intOf]; omega
          · have hg : (0 : Int) < (V.length : Int) := by omega
            have hvE : (!V.isEmpty) = true := by cases V <;> simp at hv0 ⊢
            rw [hvE] at hSnoc
            have HSS := Lib.hid hSnoc
            clear hSnoc hvE
            go_wp2_with fail
            go_region_held3 (fun W => W.cell? (ad.add k) = some (.string nm)) (first | exact cell_kept HB.out HCW.out | exact Lib.cell?_alloc_some _ (cell_kept HB.out HCW.out) | go_keep) (first
              | (go_at_call 71; refine (CJ.out _ HSX.out).mono ?_; rintro e w3 ⟨rfl, hb⟩; have HK := Lib.hid (HK.out.below hb); have HB := Lib.hid (below_then HB.out hb); clear hb)
              | (refine step_append_slk (by rfl) _ _ 26 (by rfl) w.heap.size 53 Tryd.underlying26 (by kernel_rfl) _ (by rfl) X (HK.out.alloc _) _ 1 1 (by rfl) [⟨nm, true, J⟩] (SlK.oneAt _ _ ⟨nm, true, J⟩ HPZ1.out rfl) (by omega) (by simp; omega) (Nat.le_trans HB.out.size (by simp)) w (HB.out.alloc HB.out.size _) ?_; intro v2 w4 ho4 hb4 hs4; have HB := Lib.hid hb4))
            go_wp2_with fail
            go_roundw
            case rel => exact ⟨k + 1, by omega, by go_num, by show OwnK _ _ _ _ _; rw [HSS.out]; exact ho4.out, HB.out⟩
            case measure => simp [intOf]; omega
    · have hTk : N.take k = N := List.take_of_length_le (by omega)
      rw [hTk] at HK
      obtain ⟨A1, c1, hv, hF⟩ := HK.out.slk HPZ.out
      subst hv
      have HF := Lib.hid hF
      have hi1 : ¬ (k : Int) < (N.length : Int) := by omega
      clear hF
      go_wp2_with fail
      go_ret
      exact ⟨A1, c1, rfl, HF.out, HB.out⟩
end Go.Proofs.YthhlcecojeaalaaDoor
end

/-
  Contracts of the reference's Match, Few, FewNames (layer 15).
-/
section
namespace Go.Proofs.YthhlcecojeaalaaDoor
open Go.RowKit
set_option linter.unusedSimpArgs false

def nmP (P : List Pk) : List (List UInt8) := P.map fun x => x.n.data.toList
theorem nmP_snoc (P : List Pk) (k : Nat) (h : k < P.length) : nmP (P.take (k + 1)) = nmP (P.take k) ++ [P[k].n.data.toList] := by
  unfold nmP
  rw [List.take_succ_eq_append_getElem h, List.map_append]; rfl
def FwP (P : List Pk) : Prop := P.length ≤ 1000 ∧ ∀ x ∈ P, x.n.size ≤ 10000
theorem fw_np {P : List Pk} (h : FwP P) : FwN (nmP P) := by
  refine ⟨by unfold nmP; rw [List.length_map]; exact h.1, fun x hx => ?_⟩
  obtain ⟨y, hy, rfl⟩ := List.mem_map.1 hx
  rw [← Lib.size_eq]
  exact h.2 y hy

set_option maxHeartbeats 8000000 in
set_option maxRecDepth 100000 in
theorem r_pkMatch (A B : Option Addr) (n c m d : Nat) (P : List Pk) (L : List Fd) (w : World) (h : SlK w A n c P) (h' : SlF w B m d L) (hP : FwP P) (hL : FwF L) :
    Calls Tryd.prog 31 #[.slice A n c, .slice B m d] w fun e w' => e = .returned (.bool (pkM P L)) ∧ Below w.heap.size w w' := by
  have hlen := h.len
  have hlem := h'.len
  subst hlen hlem
  have hD : pkM P L = pksB (pksL (nmP P) L) P := rfl
  have HD := Lib.hid hD
  have HF := Lib.hid h'
  have hPl := hP.1
  have HPK := Lib.hid h
  have hpl2 : (pksL (nmP P) L).length ≤ 1000 := by unfold pksL nmP; rw [List.length_map, List.length_map]; exact hPl
  have C1 := Lib.hid (fun W A' c' (hW : SlS W A' (nmP P).length c' (nmP P)) (hF : SlF W B L.length d L) => r_picks A' B (nmP P).length c' L.length d (nmP P) L W hW hF (fw_np hP) hL)
  have C2 := Lib.hid (fun W A' c' (hW : SlK W A' (pksL (nmP P) L).length c' (pksL (nmP P) L)) (hK : SlK W A P.length c P) => r_pkSame A' A _ c' _ c (pksL (nmP P) L) P W hW hK (by omega))
  have HPZ := Lib.hid hP
  unfold IsPk at C1
  clear hD h' hL hP
  generalize pkM P L = R at *
  generalize hPX : pksL (nmP P) L = PX at *
  clear hPX
  go_enter Tryd.func31, Tryd.ntmps31
  go_wp2_with fail
  go_loopw [5, 6] (fun v i wr => ∃ k : Nat, k ≤ P.length ∧ i = .int .i64 k ∧ Hid (OwnS wr w.heap.size 9 v (nmP (P.take k))) ∧ Hid (Below w.heap.size w wr)) (fun _ i _ => P.length - (intOf i).toNat)
  case atStart => exact ⟨0, Nat.zero_le _, rfl, OwnS.nil _ _ _, Below.refl _ _⟩
  case round =>
    obtain ⟨k, hk, rfl, HO, HB⟩ := hrel
    by_cases hlt : k < P.length
    · obtain ⟨ad, rfl, hc⟩ := h.at_ (by omega)
      have hcell := cell_kept HB.out (hc k P[k] (List.getElem?_eq_getElem hlt)).1
      have hi0 : (0 : Int) ≤ (k : Int) := by omega
      have hi1 : (k : Int) < (P.length : Int) := by omega
      have HT := Lib.hid (nmP_snoc P k hlt)
      have hXl : (nmP (P.take k)).length ≤ 1000 := by unfold nmP; rw [List.length_map, List.length_take]; omega
      generalize P[k] = x at *
      obtain ⟨xn, xh, xv⟩ := x
      simp only at hcell HT
      generalize nmP (P.take k) = X at *
      clear hc
      go_wp2_with (at_builtin; refine wpList_append_sls rfl _ _ _ rfl w.heap.size 9 Tryd.underlying51 (by kernel_rfl) _ rfl X (HO.out.alloc _) _ _ _ rfl [xn.data.toList] (SlS.text _ _ _) (by simp; omega) (by simp; have := HB.out.size; omega) w (HB.out.alloc HB.out.size _) ?_; intro v1 w3 ho1 hb1 hz1)
      go_roundw
      case rel => exact ⟨k + 1, by omega, by go_num, by show OwnS _ _ _ _ _; rw [HT.out]; exact ho1.out, hb1⟩
      case measure => simp [intOf]; omega
    · have hTk : P.take k = P := List.take_of_length_le (by omega)
      rw [hTk] at HO
      obtain ⟨A1, c1, hv, hS, _⟩ := HO.out.sls
      subst hv
      have HS := Lib.hid hS
      have hi1 : ¬ (k : Int) < (P.length : Int) := by omega
      clear hS HO
      go_wp2_with fail
      refine (C1.out _ _ _ HS.out (HF.out.below HB.out)).mono ?_
      rintro e w2 ⟨A2, c2, rfl, hK, hb⟩
      have HK := Lib.hid hK
      have HB := Lib.hid (below_then HB.out hb)
      clear hK hb
      go_wp2_with fail
      refine (C2.out _ _ _ HK.out (HPK.out.below HB.out)).mono ?_
      rintro e w3 ⟨rfl, hb⟩
      have HB := Lib.hid (below_then HB.out hb)
      clear hb
      go_wp2_with fail
      go_ret
      exact ⟨by rw [HD.out]; rfl, HB.out⟩

/-- Few picks, and short ones; few names, and short ones. -/
def fewK (P : List Pk) : Bool := decide (P.length ≤ 30) && P.all fun x => decide (x.n.size ≤ 500) && decide (x.v.size ≤ 500)
def fewN (N : List (List UInt8)) : Bool := decide (N.length ≤ 30) && N.all fun x => decide (x.length ≤ 500)
end Go.Proofs.YthhlcecojeaalaaDoor
end
