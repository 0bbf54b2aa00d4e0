/-
  Texts that the laws of this seat lean on, one behind the other.
-/
import Derived.Test.YthhlcecojeaalaaDoorMrgV
import Derived.Test.YthhlcecojeaalaaDoorMrgAB
import Derived.Test.YthhlcecojeaalaaDoorMrgK
import Derived.Test.YthhlcecojeaalaaDoorMrgZ
import Derived.Deep.RegionLaw
set_option linter.unusedSimpArgs false
set_option linter.unusedVariables false
/-
  Contracts of package vary's squeezed, namesOf, Picks, Match, Same.
-/
section
namespace Go.Proofs.YthhlcecojeaalaaDoor
open Go.RowKit
set_option linter.unusedSimpArgs false

/-- A field with its value squeezed. -/
def sqF (x : Fd) : Fd := (x.1, mkS (sglL false x.2.data.toList))
def fdE (x : Fd) : List Value := [.string x.1, .string x.2]
theorem sq_size (x : Fd) : (sqF x).2.size ≤ x.2.size := by
  show (mkS _).size ≤ _
  rw [mkS_size, Lib.size_eq]
  exact sgl_le _ _
theorem sq_all (L : List Fd) (name : ByteArray) : fdAll (L.map sqF) name = (fdAll L name).map (sglL false) := by
  induction L with
  | nil => rfl
  | cons x L ih =>
    unfold fdAll at ih ⊢
    rw [List.map_cons, List.filter_cons, List.filter_cons]
    show (if sameB x.1 name = true then _ else _ : List Fd).map _ = _
    cases sameB x.1 name
    · exact ih
    · simp only [if_true, List.map_cons]
      rw [ih]
      show (mkS _).data.toList :: _ = _
      rw [mkS_list]
theorem fdE_len {L : List Fd} {r : Nat} : ∀ l ∈ L.map fdE ++ List.replicate r [Value.string ⟨#[]⟩, .string ⟨#[]⟩], l.length = 2 := fun l hl => by
  rcases List.mem_append.1 hl with h | h
  · obtain ⟨x, _, rfl⟩ := List.mem_map.1 h; rfl
  · rw [(List.mem_replicate.1 h).2]; rfl

set_option maxHeartbeats 8000000 in
set_option maxRecDepth 100000 in
theorem squeezed_any (A : Option Addr) (n c : Nat) (L : List Fd) (w : World) (h : SlF w A n c L) (hL : FwF L) :
    Calls Tryd.prog 43 #[.slice A n c] w fun e w' => ∃ g, e = .returned (.slice (some ⟨g, 0, none⟩) n n) ∧ SlF w' (some ⟨g, 0, none⟩) n n (L.map sqF) ∧ Below w.heap.size w w' := by
  have hlen := h.len
  subst hlen
  have hl1 := hL.1
  obtain ⟨w1, hmk, hrow, hbm⟩ := run_makeE (P := Tryd.prog) w 23 62 (.agg #[.string ⟨#[]⟩, .string ⟨#[]⟩]) [.string ⟨#[]⟩, .string ⟨#[]⟩] 32 L.length Tryd.underlying23 (by kernel_rfl) rfl (by decide) (by omega) (by unfold maxLen; omega)
  have HR0 := Lib.hid hrow
  have HB0 := Lib.hid hbm
  have HL := Lib.hid hL
  obtain ⟨g, hg⟩ : ∃ g, g = w.heap.size := ⟨_, rfl⟩
  rw [← hg] at hmk HR0
  have HG : Hid (w.heap.size ≤ g) := by show _ ≤ _; omega
  clear hrow hbm hL hg
  go_enter Tryd.func43, Tryd.ntmps43
  go_wp2_with fail
  go_loopw [11] (fun i wr => ∃ k : Nat, k ≤ L.length ∧ i = .int .i64 k ∧ Hid (RowE wr g 62 (((L.take k).map sqF).map fdE ++ List.replicate (L.length - k) [Value.string ⟨#[]⟩, .string ⟨#[]⟩])) ∧ Hid (Below w.heap.size w wr)) (fun i _ => L.length - (intOf i).toNat)
  case atStart => exact ⟨0, Nat.zero_le _, rfl, HR0.out, HB0.out⟩
  case round =>
    clear HR0 HB0 hmk
    obtain ⟨k, hk, rfl, HR, HB⟩ := hrel
    by_cases hlt : k < L.length
    · obtain ⟨ad, rfl, hc⟩ := h.at_ (by omega)
      obtain ⟨hc0, hc1⟩ := hc k L[k] (List.getElem?_eq_getElem hlt)
      have hc0 := cell_kept HB.out hc0
      have hc1 := fd_snd (cell_kept HB.out hc1)
      have hsz := HL.out.2 _ (List.getElem_mem hlt)
      have hi0 : (0 : Int) ≤ (k : Int) := by omega
      have hi1 : (k : Int) < (L.length : Int) := by omega
      obtain ⟨X, hX⟩ : ∃ X, X = (L.take k).map sqF := ⟨_, rfl⟩
      have hXl : X.length = k := by rw [hX, List.length_map, List.length_take]; omega
      have HN : Hid ((L.take (k + 1)).map sqF = X ++ [sqF L[k]]) := by
        show _ = _
        rw [List.take_succ_eq_append_getElem hlt, List.map_append, hX]; rfl
      obtain ⟨r, hr⟩ : ∃ r, L.length - k = r + 1 := ⟨L.length - k - 1, by omega⟩
      have HRR : Hid (L.length - (k + 1) = r) := by show _ = _; omega
      rw [← hX, hr] at HR
      have HSQ : Hid (sqF L[k] = (L[k].1, mkS (sglL false L[k].2.data.toList))) := rfl
      have CQ := Lib.hid (fun W => squeeze_any L[k].2 (by omega) W)
      generalize L[k] = f at *
      obtain ⟨fn, fv⟩ := f
      simp only at HSQ CQ hc0 hc1
      generalize mkS (sglL false fv.data.toList) = sq at *
      clear hc hX hr hsz hk
      have hat := fun (W : World) (hW : RowE W g 62 (X.map fdE ++ List.replicate (r + 1) [Value.string ⟨#[]⟩, .string ⟨#[]⟩])) => hW.at2 (k := k) (a := .string ⟨#[]⟩) (b := .string ⟨#[]⟩) fdE_len (by rw [List.getElem?_append_right (by rw [List.length_map, hXl]; exact Nat.le_refl _), List.length_map, hXl, Nat.sub_self]; rfl)
      have HAT := Lib.hid hat
      clear hat
      obtain ⟨p0, p1⟩ := zero_two (heap_alloc_new wr (.cells #[.string fn, .string fv] 62))
      have HRa := Lib.hid (HR.out.alloc (.cells #[.string fn, .string fv] 62))
      have HBa := Lib.hid (HB.out.alloc HB.out.size (.cells #[.string fn, .string fv] 62))
      go_wp2_with fail
      go_region_law ((go_simp; go_at_call 65; refine (CQ.out _).mono ?_; rintro e w2 ⟨rfl, hb2⟩; have p0 := cell_kept hb2 p0; have p1 := cell_kept hb2 p1; have HR2 := Lib.hid (HRa.out.drew.below hb2); obtain ⟨x0, x1, x2, x3⟩ := HAT.out _ HR2.out; have HB2 := Lib.hid (HBa.out.drew.trans (hb2.mono HBa.out.size)); clear hb2))
      all_goals
        go_wp2_with fail
        go_roundw
        case rel =>
          refine ⟨k + 1, by omega, by go_num, ?_, below_pair HB2.out HG.out _ _⟩
          have hs := HR2.out.set2 (k := k) fdE_len (by rw [List.length_append, List.length_map, hXl, List.length_replicate]; omega) (.string fn) (.string sq)
          have hs2 := set_next fdE [.string ⟨#[]⟩, .string ⟨#[]⟩] X (fn, sq) r
          rw [hXl] at hs2
          show RowE _ _ _ _
          rw [HN.out, HRR.out, HSQ.out, ← hs2]
          exact hs
        case measure => simp [intOf]; omega
    · have hi1 : ¬ (k : Int) < (L.length : Int) := by omega
      have hkl : k = L.length := by omega
      subst hkl
      have HF : Hid (SlF wr (some ⟨g, 0, none⟩) L.length L.length (L.map sqF)) := by
        have hr := HR.out
        rw [List.take_length, Nat.sub_self, List.replicate_zero, List.append_nil] at hr
        exact hr.slf (by simp) (by unfold maxLen; omega) (fun x hx => by
          obtain ⟨y, hy, rfl⟩ := List.mem_map.1 hx
          have h1 := HL.out.2 y hy
          have h2 := sq_size y
          show y.1.size ≤ _ ∧ _
          unfold maxLen; omega)
      go_wp2_with fail
      go_ret
      exact ⟨g, rfl, HF.out, HB.out⟩

def nmC (x : Pk) : List Value := [.string x.n]
theorem nmC_len {P : List Pk} {r : Nat} : ∀ l ∈ P.map nmC ++ List.replicate r [Value.string ⟨#[]⟩], l.length = 1 := fun l hl => by
  rcases List.mem_append.1 hl with h | h
  · obtain ⟨x, _, rfl⟩ := List.mem_map.1 h; rfl
  · rw [(List.mem_replicate.1 h).2]; rfl
theorem nmC_st (P : List Pk) : (nmP P).map (fun x => [stV x]) = P.map nmC := by
  unfold nmP
  rw [List.map_map]
  refine List.map_congr_left fun x _ => ?_
  show [Value.string (mkS x.n.data.toList)] = [Value.string x.n]
  rw [mkS_self]

set_option maxHeartbeats 8000000 in
set_option maxRecDepth 100000 in
theorem namesOf_any (A : Option Addr) (n c : Nat) (P : List Pk) (w : World) (h : SlK w A n c P) (hn : n ≤ 1000) :
    Calls Tryd.prog 46 #[.slice A n c] w fun e w' => ∃ g, e = .returned (.slice (some ⟨g, 0, none⟩) n n) ∧ SlS w' (some ⟨g, 0, none⟩) n n (nmP P) ∧ Below w.heap.size w w' := by
  have hlen := h.len
  subst hlen
  obtain ⟨w1, hmk, hrow, hbm⟩ := run_makeE (P := Tryd.prog) w 51 9 (.string ⟨#[]⟩) [.string ⟨#[]⟩] 16 P.length Tryd.underlying51 (by kernel_rfl) rfl (by decide) (by omega) (by unfold maxLen; omega)
  have HR0 := Lib.hid hrow
  have HB0 := Lib.hid hbm
  obtain ⟨g, hg⟩ : ∃ g, g = w.heap.size := ⟨_, rfl⟩
  rw [← hg] at hmk HR0
  have HG : Hid (w.heap.size ≤ g) := by show _ ≤ _; omega
  clear hrow hbm hg
  go_enter Tryd.func46, Tryd.ntmps46
  go_wp2_with fail
  go_loopw [11] (fun i wr => ∃ k : Nat, k ≤ P.length ∧ i = .int .i64 k ∧ Hid (RowE wr g 9 ((P.take k).map nmC ++ List.replicate (P.length - k) [Value.string ⟨#[]⟩])) ∧ Hid (Below w.heap.size w wr)) (fun i _ => P.length - (intOf i).toNat)
  case atStart => exact ⟨0, Nat.zero_le _, rfl, HR0.out, HB0.out⟩
  case round =>
    clear HR0 HB0 hmk
    obtain ⟨k, hk, rfl, HR, HB⟩ := hrel
    by_cases hlt : k < P.length
    · obtain ⟨ad, rfl, hc⟩ := h.at_ (by omega)
      obtain ⟨hc0, hc1, hc2⟩ := hc k P[k] (List.getElem?_eq_getElem hlt)
      have hc0 := cell_kept HB.out hc0
      have hc1 := pk_at1 (cell_kept HB.out hc1)
      have hc2 := pk_at2 (cell_kept HB.out hc2)
      have hi0 : (0 : Int) ≤ (k : Int) := by omega
      have hi1 : (k : Int) < (P.length : Int) := by omega
      obtain ⟨X, hX⟩ : ∃ X, X = P.take k := ⟨_, rfl⟩
      have hXl : X.length = k := by rw [hX, List.length_take]; omega
      have HN : Hid (P.take (k + 1) = X ++ [P[k]]) := by
        show _ = _
        rw [List.take_succ_eq_append_getElem hlt, hX]
      obtain ⟨r, hr⟩ : ∃ r, P.length - k = r + 1 := ⟨P.length - k - 1, by omega⟩
      have HRR : Hid (P.length - (k + 1) = r) := by show _ = _; omega
      rw [← hX, hr] at HR
      generalize P[k] = f at *
      obtain ⟨fn, fh, fv⟩ := f
      clear hc hX hr hk
      have HSN : Hid ((X.map nmC ++ List.replicate (r + 1) [Value.string ⟨#[]⟩]).set k [.string fn] = (X ++ [(⟨fn, fh, fv⟩ : Pk)]).map nmC ++ List.replicate r [Value.string ⟨#[]⟩]) := by
        show _ = _
        rw [← hXl]; exact set_next nmC [.string ⟨#[]⟩] X ⟨fn, fh, fv⟩ r
      have hkl : k < (X.map nmC ++ List.replicate (r + 1) [Value.string ⟨#[]⟩]).length := by rw [List.length_append, List.length_map, hXl, List.length_replicate]; omega
      have HKL := Lib.hid hkl
      clear hkl
      obtain ⟨q0, q1, q2⟩ : (wr.alloc (.cells #[.string fn, .bool fh, .string fv] 53)).cell? ⟨wr.heap.size, 0, none⟩ = some (.string fn) ∧ (wr.alloc (.cells #[.string fn, .bool fh, .string fv] 53)).cell? ⟨wr.heap.size, 1, none⟩ = some (.bool fh) ∧ (wr.alloc (.cells #[.string fn, .bool fh, .string fv] 53)).cell? ⟨wr.heap.size, 2, none⟩ = some (.string fv) :=
        ⟨(cell_of_row _ _ 0 _ _ _ (heap_alloc_new wr _)).trans rfl, (cell_of_row _ _ 1 _ _ _ (heap_alloc_new wr _)).trans rfl, (cell_of_row _ _ 2 _ _ _ (heap_alloc_new wr _)).trans rfl⟩
      go_wp2_with (refine wpList_storeE (by rfl) _ _ _ (by rfl) _ (by rfl) g 9 k 1 (by rw [Nat.mul_one]) _ (by rfl) [.string fn] (by rfl) rfl (by kernel_rfl) (fun u hu => by rw [List.mem_singleton] at hu; subst hu; rfl) _ (HR.out.alloc _) nmC_len HKL.out w.heap.size w (HB.out.alloc HB.out.size _) HG.out ?_; intro w2 hr2 hb2 hz2)
      go_roundw
      case rel =>
        refine ⟨k + 1, by omega, by go_num, ?_, hb2⟩
        show RowE _ _ _ _
        rw [HN.out, HRR.out, ← HSN.out]
        exact hr2.out
      case measure => simp [intOf]; omega
    · have hi1 : ¬ (k : Int) < (P.length : Int) := by omega
      have hkl : k = P.length := by omega
      subst hkl
      have HF : Hid (SlS wr (some ⟨g, 0, none⟩) P.length P.length (nmP P)) := by
        have hr := HR.out
        rw [List.take_length, Nat.sub_self, List.replicate_zero, List.append_nil, ← nmC_st] at hr
        exact hr.sls (by unfold nmP; rw [List.length_map]) (by unfold maxLen; omega)
      go_wp2_with fail
      go_ret
      exact ⟨g, rfl, HF.out, HB.out⟩

def pkE3 (x : Pk) : List Value := [.string x.n, .bool x.h, .string x.v]
theorem pkE3_len {P : List Pk} {r : Nat} : ∀ l ∈ P.map pkE3 ++ List.replicate r [Value.string ⟨#[]⟩, .bool false, .string ⟨#[]⟩], l.length = 3 := fun l hl => by
  rcases List.mem_append.1 hl with h | h
  · obtain ⟨x, _, rfl⟩ := List.mem_map.1 h; rfl
  · rw [(List.mem_replicate.1 h).2]; rfl
theorem sq_get (L : List Fd) (x : List UInt8) : fdGet (L.map sqF) (mkS x) = (pkOf L x).v ∧ fdGot (L.map sqF) (mkS x) = (pkOf L x).h := by
  unfold fdGet fdGot pkOf
  rw [sq_all]
  exact ⟨rfl, by cases fdAll L (mkS x) <;> rfl⟩
theorem sq_bd {L : List Fd} (h : FwF L) : ∀ x ∈ L.map sqF, Bd x := fun x hx => by
  obtain ⟨y, hy, rfl⟩ := List.mem_map.1 hx
  have h1 := h.2 y hy
  have h2 := sq_size y
  exact ⟨by show y.1.size ≤ _; omega, by omega⟩

set_option maxHeartbeats 8000000 in
set_option maxRecDepth 100000 in
theorem varK_any (A B : Option Addr) (c d : Nat) (N : List (List UInt8)) (L : List Fd) (w : World) (h : SlS w A N.length c N) (h' : SlF w B L.length d L) (hN : FwN N) (hL : FwF L) :
    Calls Tryd.prog 23 #[.slice A N.length c, .slice B L.length d] w (IsPk w (pksL N L)) := by
  have CQ := Lib.hid (squeezed_any B L.length d L w h' hL)
  have HN0 := Lib.hid hN
  have hn1 := hN.1
  have hl1 := hL.1
  have HPZ := Lib.hid (pks_sz hL hN)
  have HPV := Lib.hid (fun (x : List UInt8) (hx : x.length ≤ 10000) => (pk_sz hL hx).2)
  have HBD := Lib.hid (sq_bd hL)
  clear hN hL h'
  go_enter Tryd.func23, Tryd.ntmps23
  go_wp2_with fail
  refine CQ.out.mono ?_
  rintro e w1 ⟨g1, rfl, hF, hb1⟩
  have HF := Lib.hid hF
  have h := h.below hb1
  have HB1 := Lib.hid hb1
  clear hF hb1 CQ
  obtain ⟨w2, hmk, hrow, hbm⟩ := run_makeE (P := Tryd.prog) w1 26 53 (.agg #[.string ⟨#[]⟩, .bool false, .string ⟨#[]⟩]) [.string ⟨#[]⟩, .bool false, .string ⟨#[]⟩] 40 N.length Tryd.underlying26 (by kernel_rfl) rfl (by decide) (by omega) (by unfold maxLen; omega)
  have HR0 := Lib.hid hrow
  have HB0 := Lib.hid hbm
  obtain ⟨g, hg⟩ : ∃ g, g = w1.heap.size := ⟨_, rfl⟩
  rw [← hg] at hmk HR0
  have HG : Hid (w1.heap.size ≤ g) := by show _ ≤ _; omega
  clear hrow hbm hg
  go_wp2_with fail
  go_loopw [18] (fun i wr => ∃ k : Nat, k ≤ N.length ∧ i = .int .i64 k ∧ Hid (RowE wr g 53 ((pksL (N.take k) L).map pkE3 ++ List.replicate (N.length - k) [Value.string ⟨#[]⟩, .bool false, .string ⟨#[]⟩])) ∧ Hid (Below w1.heap.size w1 wr)) (fun i _ => N.length - (intOf i).toNat)
  case atStart => exact ⟨0, Nat.zero_le _, rfl, HR0.out, HB0.out⟩
  case round =>
    clear HR0 HB0 hmk
    obtain ⟨k, hk, rfl, HR, HB⟩ := hrel
    by_cases hlt : k < N.length
    · obtain ⟨ad, rfl, hc⟩ := h.at_ (by omega)
      have hcell := cell_kept HB.out (hc k N[k] (List.getElem?_eq_getElem hlt))
      have hx := HN0.out.2 _ (List.getElem_mem hlt)
      have hi0 : (0 : Int) ≤ (k : Int) := by omega
      have hi1 : (k : Int) < (N.length : Int) := by omega
      obtain ⟨X, hX⟩ : ∃ X, X = pksL (N.take k) L := ⟨_, rfl⟩
      have hXl : X.length = k := by rw [hX]; unfold pksL; rw [List.length_map, List.length_take]; omega
      have HN : Hid (pksL (N.take (k + 1)) L = X ++ [pkOf L N[k]]) := by
        show _ = _
        rw [pks_snoc N L k hlt, hX]
      obtain ⟨r, hr⟩ : ∃ r, N.length - k = r + 1 := ⟨N.length - k - 1, by omega⟩
      have HRR : Hid (N.length - (k + 1) = r) := by show _ = _; omega
      rw [← hX, hr] at HR
      generalize N[k] = x at *
      obtain ⟨v1, v2⟩ := sq_get L x
      have hvz := HPV.out x hx
      have hjl : (Lib.join (fdAll (L.map sqF) (mkS x)) [44, 32]).length ≤ 1000000000000 := by
        have : (fdGet (L.map sqF) (mkS x)).size = (Lib.join (fdAll (L.map sqF) (mkS x)) [44, 32]).length := by unfold fdGet; rw [mkS_size]
        rw [← this, v1]; omega
      have CG := Lib.hid (fun W (hW : SlF W (some ⟨g1, 0, none⟩) L.length L.length (L.map sqF)) => getF_any (some ⟨g1, 0, none⟩) L.length L.length (L.map sqF) (mkS x) W hW (by omega) HBD.out (by rw [mkS_size]; unfold maxLen; omega) hjl)
      rw [v1, v2] at CG
      have HPE : Hid (pkOf L x = ⟨mkS x, (pkOf L x).h, (pkOf L x).v⟩) := rfl
      generalize (pkOf L x).v = xv at *
      generalize (pkOf L x).h = xh at *
      generalize mkS x = xn at *
      have HSN : Hid ((X.map pkE3 ++ List.replicate (r + 1) [Value.string ⟨#[]⟩, .bool false, .string ⟨#[]⟩]).set k [.string xn, .bool xh, .string xv] = (X ++ [(⟨xn, xh, xv⟩ : Pk)]).map pkE3 ++ List.replicate r [Value.string ⟨#[]⟩, .bool false, .string ⟨#[]⟩]) := by
        show _ = _
        rw [← hXl]; exact set_next pkE3 [.string ⟨#[]⟩, .bool false, .string ⟨#[]⟩] X ⟨xn, xh, xv⟩ r
      have hkl : k < (X.map pkE3 ++ List.replicate (r + 1) [Value.string ⟨#[]⟩, .bool false, .string ⟨#[]⟩]).length := by rw [List.length_append, List.length_map, hXl, List.length_replicate]; omega
      have HKL := Lib.hid hkl
      have HCF := Lib.hid (HF.out.below HB.out)
      clear hkl hc hX hr hk hx hjl hvz v1 v2
      go_wp2_with fail
      refine (CG.out _ HCF.out).mono ?_
      rintro e w3 ⟨rfl, hb3⟩
      have HR := Lib.hid (HR.out.below hb3)
      have HB := Lib.hid (below_then HB.out hb3)
      clear hb3 hcell HCF
      go_wp2_with (refine wpList_storeE (by rfl) _ _ _ (by rfl) _ (by rfl) g 53 k 3 (by first | rfl | exact addr_add _ _ _) _ (by rfl) [.string xn, .bool xh, .string xv] (by rfl) rfl (by kernel_rfl) (fun u hu => by simp only [List.mem_cons, List.not_mem_nil, or_false] at hu; rcases hu with rfl | rfl | rfl <;> rfl) _ HR.out pkE3_len HKL.out w1.heap.size w1 HB.out HG.out ?_; intro w4 hr4 hb4 hz4)
      go_roundw
      case rel =>
        refine ⟨k + 1, by omega, by go_num, ?_, hb4⟩
        show RowE _ _ _ _
        rw [HN.out, HRR.out, HPE.out, ← HSN.out]
        exact hr4.out
      case measure => simp [intOf]; omega
    · have hi1 : ¬ (k : Int) < (N.length : Int) := by omega
      have hkl : k = N.length := by omega
      subst hkl
      have hpl : (pksL N L).length = N.length := by unfold pksL; rw [List.length_map]
      have HF : Hid (SlK wr (some ⟨g, 0, none⟩) N.length N.length (pksL N L)) := by
        have hr := HR.out
        rw [List.take_length, Nat.sub_self, List.replicate_zero, List.append_nil] at hr
        exact RowE.slk hr hpl (by unfold maxLen; omega) HPZ.out
      have HBW : Hid (Below w.heap.size w wr) := HB1.out.trans (HB.out.mono HB1.out.size)
      go_wp2_with fail
      go_ret
      exact ⟨some ⟨g, 0, none⟩, N.length, by rw [hpl]; rfl, by rw [hpl]; exact HF.out, HBW.out⟩

set_option maxHeartbeats 8000000 in
set_option maxRecDepth 100000 in
theorem pkEqual_any (A B : Option Addr) (n c m d : Nat) (L M : List Pk) (w : World) (h : SlK w A n c L) (h' : SlK w B m d M) (hn : n ≤ 100000000) :
    Calls Tryd.prog 50 #[.slice A n c, .slice B m d] w fun e w' => e = .returned (.bool (pksB L M)) ∧ Below w.heap.size w w' := by
  have hlen := h.len
  have hlem := h'.len
  subst hlen hlem
  by_cases hl : L.length = M.length
  · have hlb : ((L.length : Int) == (M.length : Int)) = true := by rw [hl]; simp
    have hlc : ((L.length : Int) != (M.length : Int)) = false := by rw [hl]; simp
    have HLM := Lib.hid hl
    clear hl
    go_enter Tryd.func50, Tryd.ntmps50
    go_wp2_with fail
    go_loopw [13] (fun i wr => ∃ k : Nat, k ≤ L.length ∧ i = .int .i64 k ∧ Hid (pksB L M = pksB (L.drop k) (M.drop k)) ∧ Below w.heap.size w wr) (fun i _ => L.length - (intOf i).toNat)
    case atStart => exact ⟨0, Nat.zero_le _, rfl, rfl, Below.refl _ _⟩
    case round =>
      obtain ⟨k, hk, rfl, hf, hbel⟩ := hrel
      by_cases hlt : k < L.length
      · have hlt2 : k < M.length := by have := HLM.out; omega
        obtain ⟨ad, rfl, hc⟩ := h.at_ (by omega)
        obtain ⟨bd, rfl, hd⟩ := h'.at_ (by omega)
        obtain ⟨hc0, hc1, hc2⟩ := hc k L[k] (List.getElem?_eq_getElem hlt)
        obtain ⟨hd0, hd1, hd2⟩ := hd k M[k] (List.getElem?_eq_getElem hlt2)
        have HS := Lib.hid (pksB_drop L M k hlt hlt2)
        generalize L[k] = x at *
        generalize M[k] = y at *
        obtain ⟨xn, xh, xv⟩ := x
        obtain ⟨yn, yh, yv⟩ := y
        have HC0 := Lib.hid (cell_kept hbel.drew hc0)
        have HC1 := Lib.hid (pk_at1 (cell_kept hbel.drew hc1))
        have HC2 := Lib.hid (pk_at2 (cell_kept hbel.drew hc2))
        have HD0 := Lib.hid (cell_kept hbel.drew hd0)
        have HD1 := Lib.hid (pk_at1 (cell_kept hbel.drew hd1))
        have HD2 := Lib.hid (pk_at2 (cell_kept hbel.drew hd2))
        have hA : pkE ⟨xn, xh, xv⟩ ⟨yn, yh, yv⟩ = ((xn.toList == yn.toList) && (xh == yh) && (xv.toList == yv.toList)) := rfl
        rw [hA] at HS
        have hi0 : (0 : Int) ≤ (k : Int) := by omega
        have hi1 : (k : Int) < (L.length : Int) := by omega
        have hi2 : (k : Int) < (M.length : Int) := by omega
        have hbel := hbel.drew
        clear hc hd hc0 hc1 hc2 hd0 hd1 hd2 hA
        have both : ∀ t : Bool, t = true ∨ t = false := fun t => by cases t <;> simp
        cases xh with
        | true =>
          cases yh with
          | true =>
            rcases both (xn.toList == yn.toList) with hT | hT
            · rcases both (xv.toList == yv.toList) with hS | hS
              · have HR : Hid (pksB L M = pksB (L.drop (k + 1)) (M.drop (k + 1))) := by
                  show _ = _
                  rw [hf.out, HS.out, hS, hT]; simp
                clear HS hf
                go_wp2_with fail
                go_region_held3 (fun W => W.cell? (ad.add (k * 3)) = some (.string xn) ∧ W.cell? { block := (ad.add (k * 3)).block, off := (ad.add (k * 3)).off + 1 } = some (.bool true) ∧ W.cell? { block := (ad.add (k * 3)).block, off := (ad.add (k * 3)).off + 2 } = some (.string xv) ∧ W.cell? (bd.add (k * 3)) = some (.string yn) ∧ W.cell? { block := (bd.add (k * 3)).block, off := (bd.add (k * 3)).off + 1 } = some (.bool true) ∧ W.cell? { block := (bd.add (k * 3)).block, off := (bd.add (k * 3)).off + 2 } = some (.string yv)) (exact ⟨HC0.out, HC1.out, HC2.out, HD0.out, HD1.out, HD2.out⟩) (fail)
                go_wp2_with fail
                go_roundw
                case rel => exact ⟨k + 1, by omega, by go_num, HR, hbel⟩
                case measure => simp [intOf]; omega
              · skip
                have HR : Hid (pksB L M = false) := by
                  show _ = _
                  rw [hf.out, HS.out, hS]; simp
                clear HS hf
                go_wp2_with fail
                go_region_held3 (fun W => W.cell? (ad.add (k * 3)) = some (.string xn) ∧ W.cell? { block := (ad.add (k * 3)).block, off := (ad.add (k * 3)).off + 1 } = some (.bool true) ∧ W.cell? { block := (ad.add (k * 3)).block, off := (ad.add (k * 3)).off + 2 } = some (.string xv) ∧ W.cell? (bd.add (k * 3)) = some (.string yn) ∧ W.cell? { block := (bd.add (k * 3)).block, off := (bd.add (k * 3)).off + 1 } = some (.bool true) ∧ W.cell? { block := (bd.add (k * 3)).block, off := (bd.add (k * 3)).off + 2 } = some (.string yv)) (exact ⟨HC0.out, HC1.out, HC2.out, HD0.out, HD1.out, HD2.out⟩) (fail)
                go_wp2_with fail
                go_ret
                exact ⟨by rw [HR.out]; rfl, hbel⟩
            · skip
              have HR : Hid (pksB L M = false) := by
                show _ = _
                rw [hf.out, HS.out, hT]; simp
              clear HS hf
              go_wp2_with fail
              go_region_held3 (fun W => W.cell? (ad.add (k * 3)) = some (.string xn) ∧ W.cell? { block := (ad.add (k * 3)).block, off := (ad.add (k * 3)).off + 1 } = some (.bool true) ∧ W.cell? { block := (ad.add (k * 3)).block, off := (ad.add (k * 3)).off + 2 } = some (.string xv) ∧ W.cell? (bd.add (k * 3)) = some (.string yn) ∧ W.cell? { block := (bd.add (k * 3)).block, off := (bd.add (k * 3)).off + 1 } = some (.bool true) ∧ W.cell? { block := (bd.add (k * 3)).block, off := (bd.add (k * 3)).off + 2 } = some (.string yv)) (exact ⟨HC0.out, HC1.out, HC2.out, HD0.out, HD1.out, HD2.out⟩) (fail)
              go_wp2_with fail
              go_ret
              exact ⟨by rw [HR.out]; rfl, hbel⟩
          | false =>
            have HR : Hid (pksB L M = false) := by
              show _ = _
              rw [hf.out, HS.out]; simp
            clear HS hf
            go_wp2_with fail
            go_region_held3 (fun W => W.cell? (ad.add (k * 3)) = some (.string xn) ∧ W.cell? { block := (ad.add (k * 3)).block, off := (ad.add (k * 3)).off + 1 } = some (.bool true) ∧ W.cell? { block := (ad.add (k * 3)).block, off := (ad.add (k * 3)).off + 2 } = some (.string xv) ∧ W.cell? (bd.add (k * 3)) = some (.string yn) ∧ W.cell? { block := (bd.add (k * 3)).block, off := (bd.add (k * 3)).off + 1 } = some (.bool false) ∧ W.cell? { block := (bd.add (k * 3)).block, off := (bd.add (k * 3)).off + 2 } = some (.string yv)) (exact ⟨HC0.out, HC1.out, HC2.out, HD0.out, HD1.out, HD2.out⟩) (fail)
            go_wp2_with fail
            go_ret
            exact ⟨by rw [HR.out]; rfl, hbel⟩
        | false =>
          cases yh with
          | true =>
            have HR : Hid (pksB L M = false) := by
              show _ = _
              rw [hf.out, HS.out]; simp
            clear HS hf
            go_wp2_with fail
            go_region_held3 (fun W => W.cell? (ad.add (k * 3)) = some (.string xn) ∧ W.cell? { block := (ad.add (k * 3)).block, off := (ad.add (k * 3)).off + 1 } = some (.bool false) ∧ W.cell? { block := (ad.add (k * 3)).block, off := (ad.add (k * 3)).off + 2 } = some (.string xv) ∧ W.cell? (bd.add (k * 3)) = some (.string yn) ∧ W.cell? { block := (bd.add (k * 3)).block, off := (bd.add (k * 3)).off + 1 } = some (.bool true) ∧ W.cell? { block := (bd.add (k * 3)).block, off := (bd.add (k * 3)).off + 2 } = some (.string yv)) (exact ⟨HC0.out, HC1.out, HC2.out, HD0.out, HD1.out, HD2.out⟩) (fail)
            go_wp2_with fail
            go_ret
            exact ⟨by rw [HR.out]; rfl, hbel⟩
          | false =>
            rcases both (xn.toList == yn.toList) with hT | hT
            · rcases both (xv.toList == yv.toList) with hS | hS
              · have HR : Hid (pksB L M = pksB (L.drop (k + 1)) (M.drop (k + 1))) := by
                  show _ = _
                  rw [hf.out, HS.out, hS, hT]; simp
                clear HS hf
                go_wp2_with fail
                go_region_held3 (fun W => W.cell? (ad.add (k * 3)) = some (.string xn) ∧ W.cell? { block := (ad.add (k * 3)).block, off := (ad.add (k * 3)).off + 1 } = some (.bool false) ∧ W.cell? { block := (ad.add (k * 3)).block, off := (ad.add (k * 3)).off + 2 } = some (.string xv) ∧ W.cell? (bd.add (k * 3)) = some (.string yn) ∧ W.cell? { block := (bd.add (k * 3)).block, off := (bd.add (k * 3)).off + 1 } = some (.bool false) ∧ W.cell? { block := (bd.add (k * 3)).block, off := (bd.add (k * 3)).off + 2 } = some (.string yv)) (exact ⟨HC0.out, HC1.out, HC2.out, HD0.out, HD1.out, HD2.out⟩) (fail)
                go_wp2_with fail
                go_roundw
                case rel => exact ⟨k + 1, by omega, by go_num, HR, hbel⟩
                case measure => simp [intOf]; omega
              · skip
                have HR : Hid (pksB L M = false) := by
                  show _ = _
                  rw [hf.out, HS.out, hS]; simp
                clear HS hf
                go_wp2_with fail
                go_region_held3 (fun W => W.cell? (ad.add (k * 3)) = some (.string xn) ∧ W.cell? { block := (ad.add (k * 3)).block, off := (ad.add (k * 3)).off + 1 } = some (.bool false) ∧ W.cell? { block := (ad.add (k * 3)).block, off := (ad.add (k * 3)).off + 2 } = some (.string xv) ∧ W.cell? (bd.add (k * 3)) = some (.string yn) ∧ W.cell? { block := (bd.add (k * 3)).block, off := (bd.add (k * 3)).off + 1 } = some (.bool false) ∧ W.cell? { block := (bd.add (k * 3)).block, off := (bd.add (k * 3)).off + 2 } = some (.string yv)) (exact ⟨HC0.out, HC1.out, HC2.out, HD0.out, HD1.out, HD2.out⟩) (fail)
                go_wp2_with fail
                go_ret
                exact ⟨by rw [HR.out]; rfl, hbel⟩
            · skip
              have HR : Hid (pksB L M = false) := by
                show _ = _
                rw [hf.out, HS.out, hT]; simp
              clear HS hf
              go_wp2_with fail
              go_region_held3 (fun W => W.cell? (ad.add (k * 3)) = some (.string xn) ∧ W.cell? { block := (ad.add (k * 3)).block, off := (ad.add (k * 3)).off + 1 } = some (.bool false) ∧ W.cell? { block := (ad.add (k * 3)).block, off := (ad.add (k * 3)).off + 2 } = some (.string xv) ∧ W.cell? (bd.add (k * 3)) = some (.string yn) ∧ W.cell? { block := (bd.add (k * 3)).block, off := (bd.add (k * 3)).off + 1 } = some (.bool false) ∧ W.cell? { block := (bd.add (k * 3)).block, off := (bd.add (k * 3)).off + 2 } = some (.string yv)) (exact ⟨HC0.out, HC1.out, HC2.out, HD0.out, HD1.out, HD2.out⟩) (fail)
              go_wp2_with fail
              go_ret
              exact ⟨by rw [HR.out]; rfl, hbel⟩
      · have HR : Hid (pksB L M = true) := by
          show _ = _
          rw [hf.out, List.drop_eq_nil_of_le (by omega), List.drop_eq_nil_of_le (by have := HLM.out; omega)]; rfl
        clear hf
        go_wp2_with fail
        go_ret
        exact ⟨by rw [HR.out]; rfl, hbel⟩
  · have hlb : ((L.length : Int) == (M.length : Int)) = false := by rw [beq_eq_false_iff_ne]; omega
    have HR := Lib.hid (pksB_len L M hl)
    clear hl
    go_enter Tryd.func50, Tryd.ntmps50
    go_wp2_with fail
    go_ret
    exact ⟨by rw [HR.out]; rfl, Below.refl _ _⟩

theorem varS_any (A B : Option Addr) (c d : Nat) (P M : List Pk) (w : World) (h : SlK w A P.length c P) (h' : SlK w B M.length d M) (hn : P.length ≤ 100000000) :
    Calls Tryd.prog 33 #[.slice A P.length c, .slice B M.length d] w fun e w' => e = .returned (.bool (pksB P M)) ∧ Below w.heap.size w w' := by
  have C1 := Lib.hid (pkEqual_any A B P.length c M.length d P M w h h' hn)
  generalize pksB P M = X at *
  clear h h' hn
  go_enter Tryd.func33, Tryd.ntmps33
  go_wp2_with fail
  refine C1.out.mono ?_
  rintro e w1 ⟨rfl, hb⟩
  go_wp2_with fail
  go_ret
  exact ⟨rfl, hb⟩

set_option maxHeartbeats 4000000 in
theorem varM_any (A B : Option Addr) (c d : Nat) (P : List Pk) (L : List Fd) (w : World) (h : SlK w A P.length c P) (h' : SlF w B L.length d L) (hP : FwP P) (hL : FwF L) :
    Calls Tryd.prog 26 #[.slice A P.length c, .slice B L.length d] w fun e w' => e = .returned (.bool (pkM P L)) ∧ Below w.heap.size w w' := by
  have hl : (nmP P).length = P.length := by unfold nmP; rw [List.length_map]
  have hpl : (pksL (nmP P) L).length = P.length := by unfold pksL; rw [List.length_map, hl]
  have C1 := Lib.hid (namesOf_any A P.length c P w h hP.1)
  have C2 := Lib.hid (fun W g (hS : SlS W (some ⟨g, 0, none⟩) (nmP P).length (nmP P).length (nmP P)) (hF : SlF W B L.length d L) => varK_any (some ⟨g, 0, none⟩) B (nmP P).length d (nmP P) L W hS hF (fw_np hP) hL)
  have C3 := Lib.hid (fun W A2 c2 (hK : SlK W A2 (pksL (nmP P) L).length c2 (pksL (nmP P) L)) (hM : SlK W A P.length c P) => varS_any A2 A c2 c (pksL (nmP P) L) P W hK hM (by rw [hpl]; have := hP.1; omega))
  have hD : pkM P L = pksB (pksL (nmP P) L) P := rfl
  rw [hD]
  unfold IsPk at C2
  rw [hpl] at C2 C3
  rw [hl] at C2
  generalize pksL (nmP P) L = X at *
  generalize nmP P = N at *
  generalize pksB X P = R at *
  clear hD hl hpl hP hL
  go_enter Tryd.func26, Tryd.ntmps26
  go_wp2_with fail
  refine C1.out.mono ?_
  rintro e w1 ⟨g, rfl, hS, hb1⟩
  go_wp2_with fail
  refine (C2.out w1 g hS (h'.below hb1)).mono ?_
  rintro e w2 ⟨A2, c2, rfl, hK, hb2⟩
  have hb2 := below_then hb1 hb2
  go_wp2_with fail
  refine (C3.out w2 A2 c2 hK (h.below hb2)).mono ?_
  rintro e w3 ⟨rfl, hb3⟩
  go_wp2_with fail
  go_ret
  exact ⟨rfl, below_then hb2 hb3⟩

end Go.Proofs.YthhlcecojeaalaaDoor
end
