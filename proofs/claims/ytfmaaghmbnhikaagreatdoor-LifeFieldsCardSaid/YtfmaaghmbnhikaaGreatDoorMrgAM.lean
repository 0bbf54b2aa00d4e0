/-
  Texts that the laws of this seat lean on, one behind the other.
-/
import Derived.Test.YtfmaaghmbnhikaaGreatDoorMrgAL
import Derived.Test.YtfmaaghmbnhikaaGreatDoorMrgAH
import Derived.Shelf.Abstract
import Derived.Laws.EntriesVeiled
import Derived.Test.YtfmaaghmbnhikaaGreatDoorMrgT
/-
  Contracts of package control's reader: a table of directives with their effects, and what an element does to what was read.
-/
section
namespace Go.Proofs.YtfmaaghmbnhikaaGreatDoor
open Go.RowKit

/-- The cells of a reader. -/
def rdC (D : Nat) (c : Ctl) : Array Value := #[.slice (some ⟨D, 0, none⟩) 10 10, .bool c.ns, .bool c.nc, .bool c.pv, .bool c.pu, .bool c.mc, .bool c.oi, .int .i64 c.ma, .int .i64 c.sh, .int .i64 c.mf]
/-- The table's cells. -/
def tabC : List Value := [.string nsS, .func (.func 77) #[] #[], .string ncS, .func (.func 78) #[] #[], .string pvS, .func (.func 79) #[] #[], .string puS, .func (.func 80) #[] #[], .string mrS, .func (.func 81) #[] #[], .string xrS, .func (.func 82) #[] #[], .string oiS, .func (.func 83) #[] #[], .string maS, .func (.func 84) #[] #[], .string smS, .func (.func 87) #[] #[], .string mfS, .func (.func 88) #[] #[]]

/-- An effect. -/
def EffOk (k g : Nat) : Prop := ∀ (R D : Nat) (c : Ctl) (v : ByteArray) (w : World), w.heap[R]? = some (.cells (rdC D c) 68 (0, 0)) →
  Calls Tryz.prog g #[.pointer (some ⟨R, 1, none⟩), .string v] w fun e w' => e = .returned (.tuple #[]) ∧ ButB R w w' ∧ w'.heap[R]? = some (.cells (rdC D (effC k c v.data.toList)) 68 (0, 0))
theorem tab_row (k : Nat) (hk : k < 10) : ∃ g : Nat, tabC[k * 2]? = some (.string (rowN k)) ∧ tabC[k * 2 + 1]? = some (.func (.func g) #[] #[]) ∧ (∀ args W, (callFunc g args).run Tryz.prog W = .ok (.enter g args) W) ∧ EffOk k g := by
  rcases k with _ | _ | _ | _ | _ | _ | _ | _ | _ | _ | k
  · exact ⟨77, rfl, rfl, Go.Proofs.enters_of Tryz.func77 (by kernel_rfl) rfl, fun R D c v w h => eff1_any R _ _ _ _ _ _ _ _ _ _ _ _ v w h⟩
  · exact ⟨78, rfl, rfl, Go.Proofs.enters_of Tryz.func78 (by kernel_rfl) rfl, fun R D c v w h => eff2_any R _ _ _ _ _ _ _ _ _ _ _ _ v w h⟩
  · exact ⟨79, rfl, rfl, Go.Proofs.enters_of Tryz.func79 (by kernel_rfl) rfl, fun R D c v w h => eff3_any R _ _ _ _ _ _ _ _ _ _ _ _ v w h⟩
  · exact ⟨80, rfl, rfl, Go.Proofs.enters_of Tryz.func80 (by kernel_rfl) rfl, fun R D c v w h => eff4_any R _ _ _ _ _ _ _ _ _ _ _ _ v w h⟩
  · exact ⟨81, rfl, rfl, Go.Proofs.enters_of Tryz.func81 (by kernel_rfl) rfl, fun R D c v w h => eff5_any R _ _ _ _ _ _ _ _ _ _ _ _ v w h⟩
  · exact ⟨82, rfl, rfl, Go.Proofs.enters_of Tryz.func82 (by kernel_rfl) rfl, fun R D c v w h => eff6_any R _ _ _ _ _ _ _ _ _ _ _ _ v w h⟩
  · exact ⟨83, rfl, rfl, Go.Proofs.enters_of Tryz.func83 (by kernel_rfl) rfl, fun R D c v w h => eff7_any R _ _ _ _ _ _ _ _ _ _ _ _ v w h⟩
  · exact ⟨84, rfl, rfl, Go.Proofs.enters_of Tryz.func84 (by kernel_rfl) rfl, fun R D c v w h => eff8_any R _ _ _ _ _ _ _ _ _ _ _ _ v w h⟩
  · exact ⟨87, rfl, rfl, Go.Proofs.enters_of Tryz.func87 (by kernel_rfl) rfl, fun R D c v w h => eff9_any R _ _ _ _ _ _ _ _ _ _ _ _ v w h⟩
  · exact ⟨88, rfl, rfl, Go.Proofs.enters_of Tryz.func88 (by kernel_rfl) rfl, fun R D c v w h => eff10_any R _ _ _ _ _ _ _ _ _ _ _ _ v w h⟩
  · omega

/-- Block R is a reader, with the table in block D. -/
structure CtRdr (w : World) (R D : Nat) (c : Ctl) : Prop where
  row : w.heap[R]? = some (.cells (rdC D c) 68 (0, 0))
  tab : SlV w D tabC
  ne : D ≠ R
section
variable {w w' : World} {R D : Nat} {c : Ctl}
theorem CtRdr.lt (h : CtRdr w R D c) : R < w.heap.size := (Array.getElem?_eq_some_iff.1 h.row).1
theorem CtRdr.tab_lt (h : CtRdr w R D c) : D < w.heap.size := World.block_lt_of_cell? w _ (h.tab 0 _ rfl)
theorem SlV.but {g : Nat} {L : List Value} (h : SlV w g L) (hne : g ≠ R) (hb : ButB R w w') : SlV w' g L := fun j x hx => by
  have h1 := h j x hx
  exact (World.cell?_of_block (w := w) (hb.block _ (World.block_lt_of_cell? w _ h1) hne)).trans h1
theorem CtRdr.but (h : CtRdr w R D c) (hb : ButB R w w') {c' : Ctl} (hr : w'.heap[R]? = some (.cells (rdC D c') 68 (0, 0))) : CtRdr w' R D c' := ⟨hr, h.tab.but h.ne hb, h.ne⟩
theorem CtRdr.below (h : CtRdr w R D c) (hb : Below w.heap.size w w') : CtRdr w' R D c := ⟨zero_still hb h.row, h.tab.below hb, h.ne⟩
theorem rd_cell (h : CtRdr w R D c) : w.cell? ⟨R, 0, none⟩ = some (.slice (some ⟨D, 0, none⟩) 10 10) := (ctRd_at h.row 0 _ rfl).1
/-- Strings lie elsewhere. -/
theorem SlS.but {A : Option Addr} {n d : Nat} {L : List (List UInt8)} (h : SlS w A n d L) (hh : Head w A) (hr : CtRdr w R D c) (hb : ButB R w w') : SlS w' A n d L := by
  refine ⟨h.len, h.cap, h.cm, h.nil, fun hn => ?_⟩
  obtain ⟨ad, e, hc⟩ := h.at_ hn
  refine ⟨ad, e, fun j x hx => ?_⟩
  have h1 := hc j x hx
  have hne : ad.block ≠ R := by
    intro hR
    rcases hh with h0 | ⟨g, _, h0⟩
    · rw [h0] at e; cases e
    · rw [h0] at e
      cases e
      simp only at hR
      subst hR
      have hl := h.len
      have h2 := hc 0 L[0] (List.getElem?_eq_getElem (by omega))
      rw [addr_add, rd_cell hr] at h2
      cases h2
  exact (World.cell?_of_block (w := w) (hb.block _ (World.block_lt_of_cell? w _ h1) (by rw [add_block]; exact hne))).trans h1
theorem Head.but {A : Option Addr} (h : Head w A) (hb : ButB R w w') : Head w' A := by
  rcases h with h | ⟨g, hg, h⟩
  · exact .inl h
  · exact .inr ⟨g, Nat.lt_of_lt_of_le hg hb.size, h⟩
end

theorem rowsC_succ (d : Dv) (c : Ctl) (k : Nat) : rowsC d c (k + 1) = rowC k d (rowsC d c k) := rfl

set_option maxHeartbeats 8000000 in
set_option maxRecDepth 100000 in
theorem ctRead_any (R D : Nat) (c : Ctl) (e : ByteArray) (w : World) (h : CtRdr w R D c) (hz : e.size ≤ 100000000) :
    Calls Tryz.prog 53 #[.pointer (some ⟨R, 0, none⟩), .string e] w fun x w' => x = .returned (.tuple #[]) ∧ CtRdr w' R D (readC c e.data.toList) ∧ ButB R w w' := by
  have CP := Lib.hid (param_any e w hz)
  have hrd : readC c e.data.toList = if parE e = 0 then stepC c ((parN e).data.toList, (parV e).data.toList) else c := by
    unfold readC dvO
    rw [mkS_self]
    by_cases h0 : parE e = 0
    · rw [if_pos h0, if_pos h0]
    · rw [if_neg h0, if_neg h0]
  rw [hrd]
  clear hrd hz
  generalize parE e = pe at *
  generalize parN e = pn at *
  generalize parV e = pv at *
  generalize parH e = ph at *
  have H0 := Lib.hid h
  clear h
  by_cases hpe : pe = 0
  · rw [if_pos hpe]
    subst hpe
    obtain ⟨Z, hZ⟩ : ∃ Z, Z = stepC c (pn.data.toList, pv.data.toList) := ⟨_, rfl⟩
    rw [← hZ]
    have HZ := Lib.hid hZ
    clear hZ
    go_enter Tryz.func53, Tryz.ntmps53
    go_wp2_with fail
    refine CP.out.mono ?_
    rintro x w1 ⟨rfl, hb1⟩
    have H1 := Lib.hid (H0.out.below hb1)
    have HB1 := Lib.hid hb1
    have hcs := rd_cell H1.out
    clear hb1 CP
    go_wp2_with fail
    go_loopw [24] (fun i wr => ∃ k : Nat, k ≤ 10 ∧ i = .int .i64 (k : Int) ∧ Hid (CtRdr wr R D (rowsC (pn.data.toList, pv.data.toList) c k)) ∧ ButB R w1 wr) (fun i _ => 10 - (intOf i).toNat)
    case atStart => exact ⟨0, Nat.zero_le _, rfl, H1.out, ButB.refl _ _⟩
    case round =>
      clear H1 hcs
      obtain ⟨k, hk, rfl, HR, hbut⟩ := hrel
      by_cases hlt : k < 10
      · obtain ⟨g, hc0, hc1, eg, heff⟩ := tab_row k hlt
        have hs := rowsC_succ (pn.data.toList, pv.data.toList) c k
        generalize rowsC (pn.data.toList, pv.data.toList) c k = ck at *
        unfold rowC at hs
        simp only at hs
        generalize rowN k = nm at *
        have hq0 := HR.out.tab _ _ hc0
        have hq1 := HR.out.tab _ _ hc1
        clear hc0 hc1
        have hi0 : (0 : Int) ≤ (k : Int) := by omega
        have hi1 : (k : Int) < 10 := by omega
        by_cases hnm : pn.data.toList = nm.data.toList
        · rw [if_pos hnm] at hs
          have HS := Lib.hid hs
          have hnm' : (nm.toList == pn.toList) = true := by rw [Lib.toList_data, Lib.toList_data]; exact beq_iff_eq.2 hnm.symm
          have HC := Lib.hid (heff R D ck pv ((wr.alloc (.cells #[.string nm, .func (.func g) #[] #[]] 96)).drew) (zero_more HR.out.row))
          have HB2 : Hid (ButB R wr ((wr.alloc (.cells #[.string nm, .func (.func g) #[] #[]] 96)).drew)) := ButB.of_below (((Below.refl _ _).alloc (Nat.le_refl _) _).drew)
          clear hs hnm heff
          go_wp2_with fail
          go_region_law ((go_simp; refine (HC.out).mono ?_; rintro x w3 ⟨rfl, hb3, hr3⟩; have HB3 := Lib.hid hb3; have HR3 := Lib.hid hr3; clear hb3 hr3))
          all_goals
            go_wp2_with fail
            go_roundw
            case rel => exact ⟨k + 1, by omega, by go_num, by show CtRdr _ _ _ _; rw [HS.out]; exact HR.out.but (HB2.out.trans HB3.out) HR3.out, hbut.trans (HB2.out.trans HB3.out)⟩
            case measure => simp [intOf]; omega
        · rw [if_neg hnm] at hs
          have HS := Lib.hid hs
          have hnm' : (nm.toList == pn.toList) = false := by rw [Lib.toList_data, Lib.toList_data]; exact beq_eq_false_iff_ne.2 (fun h => hnm h.symm)
          clear hs hnm heff
          go_wp2_with fail
          go_roundw
          case rel => exact ⟨k + 1, by omega, by go_num, by show CtRdr _ _ _ _; rw [HS.out]; exact HR.out.below ((Below.refl _ _).alloc (Nat.le_refl _) _), hbut.trans (ButB.of_below ((Below.refl _ _).alloc (Nat.le_refl _) _))⟩
          case measure => simp [intOf]; omega
      · obtain rfl : k = 10 := by omega
        go_wp2_with fail
        go_end0
        exact ⟨rfl, by rw [HZ.out]; exact HR.out, (ButB.of_below HB1.out).trans hbut⟩
  · rw [if_neg hpe]
    go_enter Tryz.func53, Tryz.ntmps53
    go_wp2_with fail
    refine CP.out.mono ?_
    rintro x w1 ⟨rfl, hb1⟩
    go_wp2_with fail
    try simp only [Exit.inBlock, Exit.then]
    refine bodyPost_ret (results_none rfl _ _ _) rfl ?_
    exact ⟨rfl, H0.out.below hb1, ButB.of_below hb1⟩

end Go.Proofs.YtfmaaghmbnhikaaGreatDoor
end

/-
  Contracts of package control's directives and visit.
-/
section
namespace Go.Proofs.YtfmaaghmbnhikaaGreatDoor
open Go.RowKit

set_option maxHeartbeats 4000000 in
set_option maxRecDepth 100000 in
theorem dirs_any (w : World) :
    Calls Tryz.prog 51 #[] w fun e w' => ∃ D, w.heap.size ≤ D ∧ D < w'.heap.size ∧ e = .returned (.slice (some ⟨D, 0, none⟩) 10 10) ∧ SlV w' D tabC ∧ Below w.heap.size w w' := by
  have HT : Hid (SlV (w.alloc (.cells tabC.toArray 96)) w.heap.size tabC) := SlV.new w 96 (cs := tabC.toArray) (fun j x hx => by simpa using hx)
  have HB : Hid (Below w.heap.size w (w.alloc (.cells tabC.toArray 96))) := (Below.refl _ _).alloc (Nat.le_refl _) _
  unfold tabC nsS ncS pvS puS mrS xrS oiS maS smS mfS at HT HB ⊢
  simp only [List.toArray] at HT HB
  go_enter Tryz.func51, Tryz.ntmps51
  go_wp2_with fail
  go_ret
  exact ⟨w.heap.size, Nat.le_refl _, by simp, rfl, HT.out, HB.out⟩

theorem enters_read : ∀ args W, (callFunc 53 args).run Tryz.prog W = .ok (.enter 53 args) W := Go.Proofs.enters_of Tryz.func53 (by kernel_rfl) rfl

theorem fold_dvs_snoc (V : List (List UInt8)) (k : Nat) (h : k < V.length) (c : Ctl) : (dvs (V.take (k + 1))).foldl stepC c = (splO V[k]).foldl readC ((dvs (V.take k)).foldl stepC c) := by
  rw [dvs_snoc V k h, List.foldl_append, fold_readC]
  rfl
theorem fold_take (E : List (List UInt8)) (j : Nat) (h : j < E.length) (c : Ctl) : (E.take (j + 1)).foldl readC c = readC ((E.take j).foldl readC c) E[j] := by
  rw [List.take_succ_eq_append_getElem h, List.foldl_append]
  rfl

set_option maxHeartbeats 16000000 in
set_option maxRecDepth 100000 in
theorem visit_any (A : Option Addr) (n d : Nat) (V : List (List UInt8)) (R D : Nat) (c : Ctl) (w : World) (hS : SlS w A n d V) (hh : Head w A) (h : CtRdr w R D c) (hn : n ≤ 1000) (hz : ∀ v ∈ V, v.length ≤ 10000) :
    Calls Tryz.prog 52 #[.slice A n d, .func (.func 53) #[.pointer (some ⟨R, 0, none⟩)] #[]] w fun e w' => e = .returned (.bool (fnV V)) ∧ CtRdr w' R D ((dvs V).foldl stepC c) ∧ ButB R w w' := by
  have hlen := hS.len
  subst hlen
  have HS0 := Lib.hid hS
  have HH0 := Lib.hid hh
  have H0 := Lib.hid h
  have eg := enters_read
  clear hS hh h
  go_enter Tryz.func52, Tryz.ntmps52
  go_wp2_with fail
  go_loopw [14, 5] (fun i g wr => ∃ (k : Nat) (b : Bool), k ≤ V.length ∧ i = .int .i64 (k : Int) ∧ g = .bool b ∧ Hid (b = fnV (V.take k)) ∧ Hid (CtRdr wr R D ((dvs (V.take k)).foldl stepC c)) ∧ ButB R w wr) (fun i _ _ => V.length - (intOf i).toNat)
  case atStart => exact ⟨0, true, Nat.zero_le _, rfl, rfl, rfl, H0.out, ButB.refl _ _⟩
  case round =>
    obtain ⟨k, b, hk, rfl, rfl, hfn, HR, hbut⟩ := hrel
    have HSr := Lib.hid (HS0.out.but HH0.out H0.out hbut)
    by_cases hlt : k < V.length
    · obtain ⟨ad, rfl, hc⟩ := HSr.out.at_ (by omega)
      have hcell := hc k V[k] (List.getElem?_eq_getElem hlt)
      have hvz := hz _ (List.getElem_mem hlt)
      have hsn := fold_dvs_snoc V k hlt c
      have hfs := fnV_snoc V k hlt
      obtain ⟨hEn, hEz⟩ := spl_sz hvz
      have CS := Lib.hid (fun W => split_any (mkS V[k]) W (by rw [mkS_size]; omega))
      rw [mkS_list] at CS
      have hse : splE V[k] = 0 ∨ splE V[k] = 5 := by
        unfold splE
        split
        · exact .inl rfl
        · exact .inr rfl
      generalize splO V[k] = E at *
      generalize splE V[k] = se at *
      generalize mkS V[k] = ms at *
      generalize (dvs (V.take k)).foldl stepC c = ck at *
      have hi0 : (0 : Int) ≤ (k : Int) := by omega
      have hi1 : (k : Int) < (V.length : Int) := by omega
      have HSN := Lib.hid hsn
      have HFS : Hid (fnV (V.take (k + 1)) = (b && decide (se = 0))) := by show _ = _; rw [hfs, ← hfn.out]
      clear hc hvz hsn hfs hfn
      rcases hse with hse | hse
      all_goals
        cases b
        all_goals
          subst hse
          go_wp2_with fail
          refine (CS.out _).mono ?_
          rintro e w2 ⟨A2, c2, rfl, hS2, hh2, hb2⟩
          have HS2 := Lib.hid hS2
          have HH2 := Lib.hid hh2
          have HR2 := Lib.hid (HR.out.below hb2)
          have HB2 := Lib.hid (hbut.trans (ButB.of_below hb2))
          clear hb2 hS2 hh2
          go_wp2_with fail
          go_loopw [27] (fun i wi => ∃ j : Nat, j ≤ E.length ∧ i = .int .i64 (j : Int) ∧ Hid (CtRdr wi R D ((E.take j).foldl readC ck)) ∧ ButB R w2 wi) (fun i _ => E.length - (intOf i).toNat)
          case atStart => exact ⟨0, Nat.zero_le _, rfl, HR2.out, ButB.refl _ _⟩
          case round =>
            obtain ⟨j, hj, rfl, HRi, hbi⟩ := hrel
            have HSi := Lib.hid (HS2.out.but HH2.out HR2.out hbi)
            by_cases hjl : j < E.length
            · obtain ⟨bd, rfl, hd⟩ := HSi.out.at_ (by omega)
              have hcell2 := hd j E[j] (List.getElem?_eq_getElem hjl)
              have hez := hEz _ (List.getElem_mem hjl)
              have hft := fold_take E j hjl ck
              have CR := Lib.hid (fun W (hW : CtRdr W R D ((E.take j).foldl readC ck)) => ctRead_any R D _ (mkS E[j]) W hW (by rw [mkS_size]; omega))
              rw [mkS_list, ← hft] at CR
              generalize mkS E[j] = me at *
              have hj0 : (0 : Int) ≤ (j : Int) := by omega
              have hj1 : (j : Int) < (E.length : Int) := by omega
              clear hd hft hez
              go_wp2_with fail
              refine (CR.out _ HRi.out).mono ?_
              rintro e w3 ⟨rfl, hr3, hb3⟩
              have HR3 := Lib.hid hr3
              have HB3 := Lib.hid (hbi.trans hb3)
              clear hr3 hb3
              go_wp2_with fail
              go_roundw
              case rel => exact ⟨j + 1, by omega, by go_num, HR3.out, HB3.out⟩
              case measure => simp [intOf]; omega
            · have HT : Hid (E.foldl readC ck = (E.take j).foldl readC ck) := by show _ = _; rw [List.take_of_length_le (by omega)]
              have hj1 : ¬ (j : Int) < (E.length : Int) := by omega
              go_wp2_with fail
              go_roundw
              case rel => exact ⟨k + 1, _, by omega, by go_num, rfl, by show _ = _; rw [HFS.out]; rfl, by show CtRdr _ _ _ _; rw [HSN.out, HT.out]; exact HRi.out, HB2.out.trans hbi⟩
              case measure => simp [intOf]; omega
    · rw [List.take_of_length_le (show V.length ≤ k by omega)] at hfn HR
      have hi1 : ¬ (k : Int) < (V.length : Int) := by omega
      go_wp2_with fail
      go_ret
      exact ⟨by rw [← hfn.out]; rfl, HR.out, hbut⟩

end Go.Proofs.YtfmaaghmbnhikaaGreatDoor
end

/-
  Contracts of package control's Parse and Asked.
-/
section
namespace Go.Proofs.YtfmaaghmbnhikaaGreatDoor
open Go.RowKit

theorem ctP_fold (L : List Fd) : ctP L = if fnV (fdAll L ccS) = true then (dvs (fdAll L ccS)).foldl stepC ct0 else { (dvs (fdAll L ccS)).foldl stepC ct0 with ns := true, nc := true } := ctD_fold _ _
set_option maxHeartbeats 16000000 in
set_option maxRecDepth 100000 in
theorem ctlP_any (A : Option Addr) (n c : Nat) (L : List Fd) (w : World) (h : SlF w A n c L) (hn : n ≤ 1000) (hB : ∀ x ∈ L, x.2.size ≤ 10000) (hBd : ∀ x ∈ L, Bd x) :
    Calls Tryz.prog 31 #[.slice A n c] w fun e w' => e = .returned (.agg (ctC (ctP L))) ∧ Below w.heap.size w w' := by
  have HZ : Hid ((w.alloc (.cells #[.bool false, .bool false, .bool false, .bool false, .bool false, .bool false, .int .i64 0, .int .i64 0, .int .i64 0] 45)).heap[w.heap.size]? = some (.cells #[.bool false, .bool false, .bool false, .bool false, .bool false, .bool false, .int .i64 0, .int .i64 0, .int .i64 0] 45 (0, 0))) := heap_alloc_new w _
  have HB : Hid (Below w.heap.size w (w.alloc (.cells #[.bool false, .bool false, .bool false, .bool false, .bool false, .bool false, .int .i64 0, .int .i64 0, .int .i64 0] 45))) := (Below.refl _ _).alloc (Nat.le_refl _) _
  have hctP := ctP_fold L
  have hVz : ∀ x ∈ fdAll L ccS, x.length ≤ 10000 := fun x hx => by
    unfold fdAll at hx
    obtain ⟨y, hy, rfl⟩ := List.mem_map.1 hx
    rw [← Lib.size_eq]
    exact hB y (List.mem_filter.1 hy).1
  have hVn : (fdAll L ccS).length ≤ 1000 := by
    unfold fdAll
    rw [List.length_map]
    exact Nat.le_trans (List.length_filter_le _ _) (by rw [h.len]; exact hn)
  have CA := Lib.hid (fun W (hW : Below w.heap.size w W) => all_any A n c L ccS W (h.below hW) (by omega) hBd ccS_le)
  unfold ccS at CA
  have hcc : (⟨#[67, 97, 99, 104, 101, 45, 67, 111, 110, 116, 114, 111, 108]⟩ : ByteArray) = ccS := rfl
  generalize hV : fdAll L ccS = V at *
  rw [hcc, hV] at CA
  unfold ccS at CA
  clear hcc hV
  obtain ⟨Z, hZ⟩ : ∃ Z, Z = ctP L := ⟨_, rfl⟩
  rw [← hZ] at hctP ⊢
  have HCT := Lib.hid hctP
  have CV := Lib.hid (fun (A' : Option Addr) d R D W hS hh hR => visit_any A' V.length d V R D ct0 W hS hh hR hVn hVz)
  generalize (dvs V).foldl stepC ct0 = cf at *
  clear hctP hZ h hn hB hBd hVz
  have mixed : Tryz.prog.follows .mixedOrders = true := by kernel_rfl
  go_enter Tryz.func31, Tryz.ntmps31
  go_wp2_with fail
  refine (dirs_any _).mono ?_
  rintro e w1 ⟨D, hD0, hD1, rfl, hT, hb1⟩
  have HZ1 := Lib.hid (zero_still hb1 HZ.out)
  have HB1 := Lib.hid (below_then HB.out hb1)
  have HT1 := Lib.hid hT
  have HD1 := Lib.hid hD1
  clear hb1 hT hD0 hD1
  go_wp2_with fail
  have HBA := Lib.hid (HB1.out.alloc HB1.out.size (.cells (rdC D ct0) 68))
  refine (CA.out _ HBA.out).mono ?_
  rintro e w2 ⟨A1, c1, rfl, hS2, hh2, hb2⟩
  have hR0 : CtRdr (w1.alloc (.cells (rdC D ct0) 68)) w1.heap.size D ct0 := ⟨heap_alloc_new w1 _, fun j x hx => Lib.cell?_alloc_some _ (HT1.out j x hx), Nat.ne_of_lt HD1.out⟩
  have HR2 := Lib.hid (hR0.below hb2)
  have HZ2 := Lib.hid (zero_still hb2 (zero_more HZ1.out))
  have HB2 := Lib.hid (below_then HBA.out hb2)
  have HS2 := Lib.hid hS2
  have HH2 := Lib.hid hh2
  clear hR0 hb2 hS2 hh2
  go_wp2_with fail
  refine (CV.out A1 c1 _ D _ HS2.out HH2.out HR2.out).mono ?_
  rintro e w3 ⟨rfl, hR3, hbt⟩
  have hP : w.heap.size < w1.heap.size := (Array.getElem?_eq_some_iff.1 HZ1.out).1
  have HZ3 := Lib.hid ((hbt.block _ (Array.getElem?_eq_some_iff.1 HZ2.out).1 (Nat.ne_of_lt hP)).trans HZ2.out)
  have HB3 := Lib.hid (HB2.out.trans (hbt.below HB2.out.size (Nat.le_of_lt hP)))
  have HP := Lib.hid hP
  generalize w1.heap.size = R at *
  obtain ⟨ns, nc, pv, pu, mc, oi, ma, sh, mf⟩ := cf
  have row : w3.heap[R]? = some (.cells #[.slice (some ⟨D, 0, none⟩) 10 10, .bool ns, .bool nc, .bool pv, .bool pu, .bool mc, .bool oi, .int .i64 ma, .int .i64 sh, .int .i64 mf] 68 (0, 0)) := hR3.row
  have ROW := Lib.hid row
  clear hbt hR3 hP row CV CA HR2 HS2 HH2 HZ2 HB2 HBA HZ1 HB1 HT1 HD1 HB HZ
  cases hf : fnV V with
  | true =>
    rw [hf] at HCT
    rw [if_pos rfl] at HCT
    obtain ⟨k1, f1⟩ := ctRd_at ROW.out 1 _ rfl
    obtain ⟨k2, f2⟩ := ctRd_at ROW.out 2 _ rfl
    obtain ⟨k3, f3⟩ := ctRd_at ROW.out 3 _ rfl
    obtain ⟨k4, f4⟩ := ctRd_at ROW.out 4 _ rfl
    obtain ⟨k5, f5⟩ := ctRd_at ROW.out 5 _ rfl
    obtain ⟨k6, f6⟩ := ctRd_at ROW.out 6 _ rfl
    obtain ⟨k7, f7⟩ := ctRd_at ROW.out 7 _ rfl
    obtain ⟨k8, f8⟩ := ctRd_at ROW.out 8 _ rfl
    obtain ⟨k9, f9⟩ := ctRd_at ROW.out 9 _ rfl
    clear hf
    go_wp2_with (refine wpList_store_row rfl _ _ _ rfl w.heap.size #[.bool ns, .bool nc, .bool pv, .bool pu, .bool mc, .bool oi, .int .i64 ma, .int .i64 sh, .int .i64 mf] rfl rfl 45 _ HZ3.out (by kernel_rfl) rfl (by simp [Value.oneCell']) ?_)
    try simp only [Exit.inBlock, Exit.then]
    refine bodyPost_ret (results_cell_row rfl _ _ w.heap.size 45 #[.bool ns, .bool nc, .bool pv, .bool pu, .bool mc, .bool oi, .int .i64 ma, .int .i64 sh, .int .i64 mf] (0, 0) _ rfl (setRow_heap _ _ _ _ _ _ HZ3.out) Tryz.underlying45 rfl (by kernel_rfl)) rfl ?_
    exact ⟨by rw [HCT.out]; rfl, below_setRow HB3.out (Nat.le_refl _) _⟩
  | false =>
    rw [hf] at HCT
    rw [if_neg (by simp)] at HCT
    obtain ⟨k1, f1⟩ := ctRd_at ROW.out 1 _ rfl
    obtain ⟨k2, f2⟩ := ctRd_at ROW.out 2 _ rfl
    obtain ⟨k3, f3⟩ := ctRd_at ROW.out 3 _ rfl
    obtain ⟨k4, f4⟩ := ctRd_at ROW.out 4 _ rfl
    obtain ⟨k5, f5⟩ := ctRd_at ROW.out 5 _ rfl
    obtain ⟨k6, f6⟩ := ctRd_at ROW.out 6 _ rfl
    obtain ⟨k7, f7⟩ := ctRd_at ROW.out 7 _ rfl
    obtain ⟨k8, f8⟩ := ctRd_at ROW.out 8 _ rfl
    obtain ⟨k9, f9⟩ := ctRd_at ROW.out 9 _ rfl
    have hne : R ≠ w.heap.size := Nat.ne_of_gt HP.out
    have HZ4 : Hid (((w3.setCell ⟨R, 1, none⟩ (.bool true)).setCell ⟨R, 2, none⟩ (.bool true)).heap[w.heap.size]? = some (.cells #[.bool false, .bool false, .bool false, .bool false, .bool false, .bool false, .int .i64 0, .int .i64 0, .int .i64 0] 45 (0, 0))) := by
      show _ = _
      rw [Below.heap_setCell _ _ _ _ (Ne.symm hne), Below.heap_setCell _ _ _ _ (Ne.symm hne)]
      exact HZ3.out
    have HB4 : Hid (Below w.heap.size w ((w3.setCell ⟨R, 1, none⟩ (.bool true)).setCell ⟨R, 2, none⟩ (.bool true))) := (HB3.out.setCell (p := ⟨R, 1, none⟩) (Nat.le_of_lt HP.out) _).setCell (p := ⟨R, 2, none⟩) (Nat.le_of_lt HP.out) _
    clear hf hne
    go_wp2_with (refine wpList_store_row rfl _ _ _ rfl w.heap.size #[.bool true, .bool true, .bool pv, .bool pu, .bool mc, .bool oi, .int .i64 ma, .int .i64 sh, .int .i64 mf] rfl rfl 45 _ HZ4.out (by kernel_rfl) rfl (by simp [Value.oneCell']) ?_)
    try simp only [Exit.inBlock, Exit.then]
    refine bodyPost_ret (results_cell_row rfl _ _ w.heap.size 45 #[.bool true, .bool true, .bool pv, .bool pu, .bool mc, .bool oi, .int .i64 ma, .int .i64 sh, .int .i64 mf] (0, 0) _ rfl (setRow_heap _ _ _ _ _ _ HZ4.out) Tryz.underlying45 rfl (by kernel_rfl)) rfl ?_
    exact ⟨by rw [HCT.out]; rfl, below_setRow HB4.out (Nat.le_refl _) _⟩

end Go.Proofs.YtfmaaghmbnhikaaGreatDoor
end
