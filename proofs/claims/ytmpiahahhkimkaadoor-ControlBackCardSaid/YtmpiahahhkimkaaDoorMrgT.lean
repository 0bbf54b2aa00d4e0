/-
  Texts that the laws of this seat lean on, one behind the other.
-/
import Derived.Test.YtmpiahahhkimkaaDoorMrgO
import Derived.Test.YtmpiahahhkimkaaDoorMrgS
import Derived.Test.YtmpiahahhkimkaaDoorMrgR
import Derived.Test.YtmpiahahhkimkaaDoorMrgK
import Derived.Test.YtmpiahahhkimkaaDoorRows
import Derived.Test.YtmpiahahhkimkaaDoorMrgB
/-
  Contracts of package control's numbered and Print.
-/
section
namespace Go.Proofs.YtmpiahahhkimkaaDoor
open Go.RowKit

theorem cel9a {W : World} {g t : Nat} {c0 c1 c2 c3 c4 c5 c6 c7 c8 : Value} (h : W.heap[g]? = some (.cells #[c0, c1, c2, c3, c4, c5, c6, c7, c8] t (0, 0))) :
    W.cell? ⟨g, 0, none⟩ = some c0 ∧ W.cell? ⟨g, 1, none⟩ = some c1 ∧ W.cell? ⟨g, 2, none⟩ = some c2 ∧ W.cell? ⟨g, 3, none⟩ = some c3 ∧ W.cell? ⟨g, 4, none⟩ = some c4 ∧ W.cell? ⟨g, 5, none⟩ = some c5 ∧ W.cell? ⟨g, 6, none⟩ = some c6 ∧ W.cell? ⟨g, 7, none⟩ = some c7 ∧ W.cell? ⟨g, 8, none⟩ = some c8 := by
  refine ⟨?_, ?_, ?_, ?_, ?_, ?_, ?_, ?_, ?_⟩ <;> (rw [cell_of_row W g _ _ _ _ h]; rfl)
theorem powL_kept {w w' : World} (h : Pow10 w) (hb : Below w.heap.size w w') : Pow10 w' := tab_below h hb
/-- A directive with its number. -/
def numS (nm : ByteArray) (n : Int) : ByteArray := nm ++ ⟨#[61]⟩ ++ mkS (plainL n)
theorem numS_size (nm : ByteArray) (n : Int) (h : nm.size ≤ 100) (hn : -9223372036854775808 ≤ n ∧ n ≤ 9223372036854775807) : (numS nm n).size ≤ 130 := by
  unfold numS
  have := plainL_short n hn.1 hn.2
  rw [ByteArray.size_append, ByteArray.size_append, mkS_size]
  show nm.size + 1 + _ ≤ _
  omega

theorem numd_any (nm : ByteArray) (n : Int) (h : nm.size ≤ 100) (hn : -9223372036854775808 ≤ n ∧ n ≤ 9223372036854775807) (w : World) (ht : Pow10 w) :
    Calls Tryd.prog 16 #[.string nm, .int .i64 n] w fun e w' => e = .returned (.string (numS nm n)) ∧ Below w.heap.size w w' := by
  have CP := Lib.hid (plain_any n hn.1 hn.2 w ht)
  have hz : (mkS (plainL n)).size ≤ 20 := by rw [mkS_size]; exact plainL_short n hn.1 hn.2
  unfold numS
  generalize mkS (plainL n) = D at *
  have hs1 : (⟨#[61]⟩ : ByteArray).size = 1 := rfl
  have k1 : ¬ 9223372036854775807 < nm.size + 1 := by omega
  have k2 : ¬ 9223372036854775807 < nm.size + 1 + D.size := by omega
  clear hn ht
  go_enter Tryd.func16, Tryd.ntmps16
  go_wp2_with fail
  refine CP.out.mono ?_
  rintro e w1 ⟨rfl, hb1⟩
  go_wp2_with fail
  go_ret
  exact ⟨rfl, hb1⟩

/-- The rows of what may be printed. -/
def prL (c : Ctl) (s1 s2 s3 : ByteArray) : List (Bool × ByteArray) := [(c.ns, nsS), (c.nc, ncS), (c.pv, pvS), (c.pu, puS), (c.mc, mrS), (c.oi, oiS), (decide (0 ≤ c.ma), s1), (decide (0 ≤ c.sh), s2), (decide (0 ≤ c.mf), s3)]
def prF (p : Bool × ByteArray) : List (List UInt8) := if p.1 then [p.2.data.toList] else []
theorem prL_eq (c : Ctl) : (prL c (numS maS c.ma) (numS smS c.sh) (numS mfS c.mf)).flatMap prF = ctL c := by
  have h1 : (numS maS c.ma).data.toList = maE.data.toList ++ plainL c.ma := by
    unfold numS; rw [append_list, append_list, mkS_list]; rfl
  have h2 : (numS smS c.sh).data.toList = smE.data.toList ++ plainL c.sh := by
    unfold numS; rw [append_list, append_list, mkS_list]; rfl
  have h3 : (numS mfS c.mf).data.toList = mfE.data.toList ++ plainL c.mf := by
    unfold numS; rw [append_list, append_list, mkS_list]; rfl
  unfold prL ctL
  simp only [List.flatMap_cons, List.flatMap_nil, prF, h1, h2, h3, decide_eq_true_eq, List.append_nil, List.append_assoc]
theorem prF_len (L : List (Bool × ByteArray)) : (L.flatMap prF).length ≤ L.length := by
  induction L with
  | nil => exact Nat.le_refl _
  | cons p L ih =>
    rw [List.flatMap_cons, List.length_append, List.length_cons]
    have : (prF p).length ≤ 1 := by unfold prF; split <;> simp
    omega
theorem prF_snoc (L : List (Bool × ByteArray)) (k : Nat) (h : k < L.length) : (L.take (k + 1)).flatMap prF = (L.take k).flatMap prF ++ prF L[k] := by
  rw [List.take_succ_eq_append_getElem h, List.flatMap_append]
  simp
def prC (L : List (Bool × ByteArray)) : List Value := L.flatMap fun p => [.bool p.1, .string p.2]
theorem prC_at : ∀ (L : List (Bool × ByteArray)) (j : Nat) (x : Bool × ByteArray), L[j]? = some x → (prC L)[j * 2]? = some (.bool x.1) ∧ (prC L)[j * 2 + 1]? = some (.string x.2)
  | [], j, x, h => by simp at h
  | y :: L, 0, x, h => by
    simp only [List.getElem?_cons_zero, Option.some.injEq] at h
    subst h
    exact ⟨rfl, rfl⟩
  | y :: L, j + 1, x, h => by
    rw [List.getElem?_cons_succ] at h
    have := prC_at L j x h
    have e : prC (y :: L) = .bool y.1 :: .string y.2 :: prC L := rfl
    rw [e, show (j + 1) * 2 = j * 2 + 1 + 1 by omega, show j * 2 + 1 + 1 + 1 = (j * 2 + 1) + 1 + 1 by omega]
    simpa using this

set_option maxHeartbeats 16000000 in
set_option maxRecDepth 100000 in
theorem ctlS_any (c : Ctl) (h : CtB c) (w : World) (ht : Pow10 w) :
    Calls Tryd.prog 6 #[.agg (ctC c)] w fun e w' => e = .returned (.string (ctS c)) ∧ Below w.heap.size w w' := by
  have hS : ctS c = mkS (Lib.join ((prL c (numS maS c.ma) (numS smS c.sh) (numS mfS c.mf)).flatMap prF) [44, 32]) := by unfold ctS; rw [prL_eq]
  rw [hS]
  have z1 := numS_size maS c.ma (by decide) h.1
  have z2 := numS_size smS c.sh (by decide) h.2.1
  have z3 := numS_size mfS c.mf (by decide) h.2.2
  have C1 := Lib.hid (fun W (hW : Below w.heap.size w W) => numd_any maS c.ma (by decide) h.1 W (powL_kept ht hW))
  have C2 := Lib.hid (fun W (hW : Below w.heap.size w W) => numd_any smS c.sh (by decide) h.2.1 W (powL_kept ht hW))
  have C3 := Lib.hid (fun W (hW : Below w.heap.size w W) => numd_any mfS c.mf (by decide) h.2.2 W (powL_kept ht hW))
  generalize numS maS c.ma = s1 at *
  generalize numS smS c.sh = s2 at *
  generalize numS mfS c.mf = s3 at *
  have hPz : ∀ p ∈ prL c s1 s2 s3, p.2.size ≤ 130 := fun p hp => by
    simp only [prL, List.mem_cons, List.not_mem_nil, or_false] at hp
    rcases hp with rfl | rfl | rfl | rfl | rfl | rfl | rfl | rfl | rfl
    iterate 6 (dsimp only; decide)
    · exact z1
    · exact z2
    · exact z3
  have hPl : (prL c s1 s2 s3).length = 9 := rfl
  obtain ⟨ns, nc, pv, pu, mc, oi, ma, sh, mf⟩ := c
  have hPC : (prC (prL ⟨ns, nc, pv, pu, mc, oi, ma, sh, mf⟩ s1 s2 s3)).toArray = #[.bool ns, .string ⟨#[110, 111, 45, 115, 116, 111, 114, 101]⟩, .bool nc, .string ⟨#[110, 111, 45, 99, 97, 99, 104, 101]⟩, .bool pv, .string ⟨#[112, 114, 105, 118, 97, 116, 101]⟩, .bool pu, .string ⟨#[112, 117, 98, 108, 105, 99]⟩, .bool mc, .string ⟨#[109, 117, 115, 116, 45, 114, 101, 118, 97, 108, 105, 100, 97, 116, 101]⟩, .bool oi, .string ⟨#[111, 110, 108, 121, 45, 105, 102, 45, 99, 97, 99, 104, 101, 100]⟩, .bool (decide (0 ≤ ma)), .string s1, .bool (decide (0 ≤ sh)), .string s2, .bool (decide (0 ≤ mf)), .string s3] := rfl
  unfold ctC
  simp only at C1 C2 C3 h ⊢
  unfold maS at C1
  unfold smS at C2
  unfold mfS at C3
  generalize prL ⟨ns, nc, pv, pu, mc, oi, ma, sh, mf⟩ s1 s2 s3 = PL at *
  have Z0 : Hid ((w.alloc (.cells #[.bool ns, .bool nc, .bool pv, .bool pu, .bool mc, .bool oi, .int .i64 ma, .int .i64 sh, .int .i64 mf] 23)).drew.heap[w.heap.size]? = some (.cells #[.bool ns, .bool nc, .bool pv, .bool pu, .bool mc, .bool oi, .int .i64 ma, .int .i64 sh, .int .i64 mf] 23 (0, 0))) := heap_alloc_new w _
  have HB : Hid (Below w.heap.size w (w.alloc (.cells #[.bool ns, .bool nc, .bool pv, .bool pu, .bool mc, .bool oi, .int .i64 ma, .int .i64 sh, .int .i64 mf] 23)).drew) := ((Below.refl _ _).alloc (Nat.le_refl _) _).drew
  have HPC := Lib.hid hPC
  have HPL := Lib.hid hPl
  have HPZ := Lib.hid hPz
  clear h ht hS z1 z2 z3 hPC hPl hPz
  go_enter Tryd.func6, Tryd.ntmps6
  go_wp2_with fail
  go_region_held3 (fun W => W.cell? ⟨w.heap.size, 0, none⟩ = some (.bool ns) ∧ W.cell? ⟨w.heap.size, 1, none⟩ = some (.bool nc) ∧ W.cell? ⟨w.heap.size, 2, none⟩ = some (.bool pv) ∧ W.cell? ⟨w.heap.size, 3, none⟩ = some (.bool pu) ∧ W.cell? ⟨w.heap.size, 4, none⟩ = some (.bool mc) ∧ W.cell? ⟨w.heap.size, 5, none⟩ = some (.bool oi) ∧ W.cell? ⟨w.heap.size, 6, none⟩ = some (.int .i64 ma) ∧ W.cell? ⟨w.heap.size, 7, none⟩ = some (.int .i64 sh) ∧ W.cell? ⟨w.heap.size, 8, none⟩ = some (.int .i64 mf)) (first | exact cel9a Z0.out | exact cel9a (zero_more Z0.out)) (first
    | (go_at_call 16; refine (by first | exact C1.out _ HB.out | exact C2.out _ HB.out | exact C3.out _ HB.out : Calls _ _ _ _ _).mono ?_; rintro e w5 ⟨rfl, hb⟩; have HB := Lib.hid (below_then HB.out hb); have Z0 := Lib.hid (zero_still hb Z0.out); clear hb))
  have hCS : ∀ (j : Nat) (x : Value), (prC PL)[j]? = some x → (prC PL).toArray[j]? = some x := fun j x hx => by simpa using hx
  rw [HPC.out] at hCS
  have hT := SlV.new w5 40 hCS
  have hB6 := HB.out.alloc HB.out.size (.cells (prC PL).toArray 40)
  rw [HPC.out] at hB6
  generalize World.alloc w5 (.cells _ 40) = W at *
  have HT := Lib.hid hT
  have HB6 := Lib.hid hB6
  have hP0 : PL.length = 9 := HPL.out
  obtain ⟨q0, q1⟩ := prC_at PL 0 _ (List.getElem?_eq_getElem (by omega))
  have hG : w5.heap.size < W.heap.size := World.block_lt_of_cell? W _ (hT _ _ q0)
  have HG := Lib.hid hG
  clear q0 q1 hT hB6 hCS HB Z0 C1 C2 C3 HPC hP0 hG
  generalize w5.heap.size = G at *
  go_wp2_with fail
  go_loopw [3, 47] (fun v i wr => ∃ k : Nat, k ≤ 9 ∧ i = .int .i64 (k : Int) ∧ Hid (OwnS wr W.heap.size 9 v ((PL.take k).flatMap prF)) ∧ Below W.heap.size W wr) (fun _ i _ => 9 - (intOf i).toNat)
  case atStart => exact ⟨0, Nat.zero_le _, rfl, OwnS.nil _ _ _, Below.refl _ _⟩
  case round =>
    obtain ⟨k, hk, rfl, hown, hbel⟩ := hrel
    by_cases hlt : k < 9
    · have hkP : k < PL.length := by have := HPL.out; omega
      obtain ⟨q0, q1⟩ := prC_at PL k _ (List.getElem?_eq_getElem hkP)
      have hcell0 := cell_kept hbel (HT.out _ _ q0)
      have hcell1 := cell_kept hbel (HT.out _ _ q1)
      have hst := prF_snoc PL k hkP
      have hXl : ((PL.take k).flatMap prF).length ≤ 9 := Nat.le_trans (prF_len _) (by rw [List.length_take]; omega)
      generalize PL[k] = p at *
      obtain ⟨fl, ms⟩ := p
      simp only at hcell0 hcell1 hst
      generalize (PL.take k).flatMap prF = X at *
      have hi0 : (0 : Int) ≤ (k : Int) := by omega
      have hi1 : (k : Int) < 9 := by omega
      have hsz := hbel.size
      clear q0 q1
      cases fl with
      | true =>
        have HS : Hid ((PL.take (k + 1)).flatMap prF = X ++ [ms.data.toList]) := by show _ = _; rw [hst]; rfl
        clear hst
        go_wp2_with (at_builtin; refine wpList_append_sls rfl _ _ _ rfl W.heap.size 9 Tryd.underlying32 (by kernel_rfl) _ rfl X ((hown.out.alloc _).alloc _) _ _ _ rfl [ms.data.toList] (SlS.textAt _ _ ms (by simp)) (by simp; omega) (by simp; omega) W ((hbel.alloc hbel.size _).alloc (by simp; omega) _) ?_; intro v1 w2 ho2 hb2 hs2)
        go_roundw
        case rel => exact ⟨k + 1, by omega, by go_num, by show OwnS _ _ _ _ _; rw [HS.out]; exact ho2.out, hb2⟩
        case measure => simp [intOf]; omega
      | false =>
        have HS : Hid ((PL.take (k + 1)).flatMap prF = X) := by show _ = _; rw [hst]; simp [prF]
        clear hst
        go_wp2_with fail
        go_roundw
        case rel => exact ⟨k + 1, by omega, by go_num, by show OwnS _ _ _ _ _; rw [HS.out]; exact hown.out.alloc _, hbel.alloc hbel.size _⟩
        case measure => simp [intOf]; omega
    · have hPk := HPL.out
      rw [List.take_of_length_le (show PL.length ≤ k by omega)] at hown
      have hXl : (PL.flatMap prF).length ≤ 9 := Nat.le_trans (prF_len _) (by omega)
      have hXz : ∀ x ∈ PL.flatMap prF, x.length ≤ 130 := fun x hx => by
        obtain ⟨p, hp, hq⟩ := List.mem_flatMap.1 hx
        have := HPZ.out p hp
        unfold prF at hq
        split at hq
        · rw [List.mem_singleton] at hq; rw [hq, ← Lib.size_eq]; exact this
        · cases hq
      obtain ⟨A2, c2, e2, hA2, hH2⟩ := hown.out.sls
      subst e2
      have CJ := Lib.hid (join_any A2 _ c2 _ wr hA2 hH2 (by omega) (Nat.le_trans (join_le _ 9 130 hXl hXz) (by decide)))
      have HBX := Lib.hid hbel
      obtain ⟨ANS, hANS⟩ : ∃ ANS, ANS = mkS (Lib.join (PL.flatMap prF) [44, 32]) := ⟨_, rfl⟩
      rw [← hANS] at CJ
      have HANS := Lib.hid hANS
      clear hANS
      generalize (PL.flatMap prF).length = n at *
      have hi1 : ¬ (k : Int) < 9 := by omega
      clear hown hXz hXl hA2 hH2 hPk
      go_wp2_with fail
      refine CJ.out.mono ?_
      rintro e w6 ⟨rfl, hb6⟩
      go_wp2_with fail
      go_ret
      exact ⟨by rw [HANS.out]; rfl, (HB6.out.trans (HBX.out.mono HB6.out.size)).trans (hb6.mono (Nat.le_trans HB6.out.size HBX.out.size))⟩

end Go.Proofs.YtmpiahahhkimkaaDoor
end

/-
  The contracts of package control's functions, as the laws of layer 13 use them, and the library's table that printing reads.
-/
section
namespace Go.Proofs.YtmpiahahhkimkaaDoor
open Go.RowKit

theorem lea_any (a b : Int) (w : World) :
    Calls Tryd.prog 8 #[.int .i64 a, .int .i64 b] w fun e w' => e = .returned (.int .i64 (leaN a b)) ∧ Below w.heap.size w w' :=
  (lst_any a b w).mono fun e w' ⟨h1, h2⟩ => ⟨h1, by subst h2; exact Below.refl _ _⟩

theorem pow13_data : (Rows.laid_internal_strconv_uint64pow10 : DataW Unit) = Lib.tabData .u64 Lib.pow10Tab := by kernel_rfl
theorem ctlPow {W : World} (h : laidMetH Tryd.prog Rows.controlPrintsRow.laid W) : Pow10 W := by
  rw [MakeChecks.laidMetH_plain _ _ _ (by kernel_rfl)] at h
  exact tab_in (n := 20) h (.tail _ (.tail _ (.head _))) pow13_data (g := 1) (by kernel_rfl) (t := 117) (by kernel_rfl) Tryd.underlying117 Tryd.underlying61 (by kernel_rfl) (by kernel_rfl)

end Go.Proofs.YtmpiahahhkimkaaDoor
end

/-
  The page's example (directives) of layer 13.
-/
section
namespace Go.Proofs.YtmpiahahhkimkaaDoor
open Go.RowKit

theorem cel9 {W : World} {g t : Nat} {c0 c1 c2 c3 c4 c5 c6 c7 c8 : Value} (h : W.heap[g]? = some (.cells #[c0, c1, c2, c3, c4, c5, c6, c7, c8] t (0, 0))) :
    W.cell? ⟨g, 0, none⟩ = some c0 ∧ W.cell? ⟨g, 1, none⟩ = some c1 ∧ W.cell? ⟨g, 2, none⟩ = some c2 ∧ W.cell? ⟨g, 3, none⟩ = some c3 ∧ W.cell? ⟨g, 4, none⟩ = some c4 ∧ W.cell? ⟨g, 5, none⟩ = some c5 ∧ W.cell? ⟨g, 6, none⟩ = some c6 ∧ W.cell? ⟨g, 7, none⟩ = some c7 ∧ W.cell? ⟨g, 8, none⟩ = some c8 := by
  refine ⟨?_, ?_, ?_, ?_, ?_, ?_, ?_, ?_, ?_⟩ <;> (rw [cell_of_row W g _ _ _ _ h]; rfl)
theorem one_any (s : ByteArray) (hs : s.size ≤ maxLen) (w : World) :
    Calls Tryd.prog 12 #[.string s] w fun e w' => e = .returned (.slice (some ⟨w.heap.size, 0, none⟩) 1 1) ∧ SlF w' (some ⟨w.heap.size, 0, none⟩) 1 1 [(ccS, s)] ∧ Below w.heap.size w w' := by
  have hS := SlF.one w 37 (ccS, s) ⟨ccS_le, hs⟩
  have HS : Hid (SlF (w.alloc (.cells #[.string ⟨#[67, 97, 99, 104, 101, 45, 67, 111, 110, 116, 114, 111, 108]⟩, .string s] 37)) (some ⟨w.heap.size, 0, none⟩) 1 1 [(ccS, s)]) := hS
  clear hS
  go_enter Tryd.func12, Tryd.ntmps12
  go_wp2_with fail
  go_ret
  exact ⟨rfl, HS.out, (Below.refl _ _).alloc (Nat.le_refl _) _⟩

theorem x13a_ok : ctP [(ccS, ⟨#[109, 97, 120, 45, 97, 103, 101, 61, 54, 48, 44, 32, 80, 114, 105, 118, 97, 116, 101, 61, 34, 120, 34, 44, 32, 109, 97, 120, 45, 97, 103, 101, 61, 53]⟩)] = ⟨false, false, true, false, false, false, 5, -1, -1⟩ := by kernel_rfl
theorem x13b_ok : ctP [(ccS, ⟨#[109, 97, 120, 45, 97, 103, 101, 61, 97]⟩)] = ⟨false, false, false, false, false, false, 0, -1, -1⟩ := by kernel_rfl
theorem x13c_ok : ctP [(ccS, ⟨#[34]⟩)] = ⟨true, true, false, false, false, false, -1, -1, -1⟩ := by kernel_rfl
theorem x13d_ok : ctA [(⟨#[80, 114, 97, 103, 109, 97]⟩, ⟨#[110, 111, 45, 99, 97, 99, 104, 101]⟩)] = ⟨false, true, false, false, false, false, -1, -1, -1⟩ := by kernel_rfl
theorem x13_print : ctS ⟨false, false, true, false, false, false, 5, -1, -1⟩ = ⟨#[112, 114, 105, 118, 97, 116, 101, 44, 32, 109, 97, 120, 45, 97, 103, 101, 61, 53]⟩ := by kernel_rfl
theorem x13_least : leaN (-1) 3 = 3 := by decide
theorem e13a (A : Option Addr) (c : Nat) (w : World) (h : SlF w A 1 c [(ccS, ⟨#[109, 97, 120, 45, 97, 103, 101, 61, 54, 48, 44, 32, 80, 114, 105, 118, 97, 116, 101, 61, 34, 120, 34, 44, 32, 109, 97, 120, 45, 97, 103, 101, 61, 53]⟩)]) : Calls Tryd.prog 11 #[.slice A 1 c] w fun e w' => e = .returned (.agg #[.bool false, .bool false, .bool true, .bool false, .bool false, .bool false, .int .i64 5, .int .i64 (-1), .int .i64 (-1)]) ∧ Below w.heap.size w w' := by
  have h2 := ctlP_any A 1 c _ w h (by omega) (fun x hx => by rw [List.mem_singleton] at hx; subst hx; dsimp only; decide) (fun x hx => by rw [List.mem_singleton] at hx; subst hx; exact ⟨by decide, by decide⟩)
  rw [x13a_ok] at h2
  exact h2
theorem e13b (A : Option Addr) (c : Nat) (w : World) (h : SlF w A 1 c [(ccS, ⟨#[109, 97, 120, 45, 97, 103, 101, 61, 97]⟩)]) : Calls Tryd.prog 11 #[.slice A 1 c] w fun e w' => e = .returned (.agg #[.bool false, .bool false, .bool false, .bool false, .bool false, .bool false, .int .i64 0, .int .i64 (-1), .int .i64 (-1)]) ∧ Below w.heap.size w w' := by
  have h2 := ctlP_any A 1 c _ w h (by omega) (fun x hx => by rw [List.mem_singleton] at hx; subst hx; dsimp only; decide) (fun x hx => by rw [List.mem_singleton] at hx; subst hx; exact ⟨by decide, by decide⟩)
  rw [x13b_ok] at h2
  exact h2
theorem e13c (A : Option Addr) (c : Nat) (w : World) (h : SlF w A 1 c [(ccS, ⟨#[34]⟩)]) : Calls Tryd.prog 11 #[.slice A 1 c] w fun e w' => e = .returned (.agg #[.bool true, .bool true, .bool false, .bool false, .bool false, .bool false, .int .i64 (-1), .int .i64 (-1), .int .i64 (-1)]) ∧ Below w.heap.size w w' := by
  have h2 := ctlP_any A 1 c _ w h (by omega) (fun x hx => by rw [List.mem_singleton] at hx; subst hx; dsimp only; decide) (fun x hx => by rw [List.mem_singleton] at hx; subst hx; exact ⟨by decide, by decide⟩)
  rw [x13c_ok] at h2
  exact h2
theorem e13d (A : Option Addr) (c : Nat) (w : World) (h : SlF w A 1 c [(⟨#[80, 114, 97, 103, 109, 97]⟩, ⟨#[110, 111, 45, 99, 97, 99, 104, 101]⟩)]) : Calls Tryd.prog 13 #[.slice A 1 c] w fun e w' => e = .returned (.agg #[.bool false, .bool true, .bool false, .bool false, .bool false, .bool false, .int .i64 (-1), .int .i64 (-1), .int .i64 (-1)]) ∧ Below w.heap.size w w' := by
  have h2 := ctlA_any A 1 c _ w h (by omega) (fun x hx => by rw [List.mem_singleton] at hx; subst hx; dsimp only; decide) (fun x hx => by rw [List.mem_singleton] at hx; subst hx; exact ⟨by decide, by decide⟩)
  rw [x13d_ok] at h2
  exact h2
theorem e13p (w : World) (ht : Pow10 w) : Calls Tryd.prog 6 #[.agg #[.bool false, .bool false, .bool true, .bool false, .bool false, .bool false, .int .i64 5, .int .i64 (-1), .int .i64 (-1)]] w fun e w' => e = .returned (.string ⟨#[112, 114, 105, 118, 97, 116, 101, 44, 32, 109, 97, 120, 45, 97, 103, 101, 61, 53]⟩) ∧ Below w.heap.size w w' := by
  have h2 := ctlS_any ⟨false, false, true, false, false, false, 5, -1, -1⟩ ⟨by decide, by decide, by decide⟩ w ht
  rw [x13_print] at h2
  exact h2
theorem e13l (w : World) : Calls Tryd.prog 8 #[.int .i64 (-1), .int .i64 3] w fun e w' => e = .returned (.int .i64 3) ∧ Below w.heap.size w w' := by
  have h2 := lea_any (-1) 3 w
  rw [x13_least] at h2
  exact h2

set_option maxHeartbeats 16000000 in
set_option maxRecDepth 100000 in
theorem ex13_any (w : World) (ht : Pow10 w) : Calls Tryd.prog 10 #[] w fun e w' => e = .returned (.bool true) ∧ Below w.heap.size w w' := by
  have K1 := Lib.hid (fun W => one_any ⟨#[109, 97, 120, 45, 97, 103, 101, 61, 54, 48, 44, 32, 80, 114, 105, 118, 97, 116, 101, 61, 34, 120, 34, 44, 32, 109, 97, 120, 45, 97, 103, 101, 61, 53]⟩ (by decide) W)
  have K2 := Lib.hid (fun W => one_any ⟨#[109, 97, 120, 45, 97, 103, 101, 61, 97]⟩ (by decide) W)
  have K3 := Lib.hid (fun W => one_any ⟨#[34]⟩ (by decide) W)
  have C1 := Lib.hid (fun W A c h => e13a A c W h)
  have C2 := Lib.hid (fun W A c h => e13b A c W h)
  have C3 := Lib.hid (fun W A c h => e13c A c W h)
  have C4 := Lib.hid (fun W A c h => e13d A c W h)
  have C5 := Lib.hid (fun W (hW : Below w.heap.size w W) => e13p W (powL_kept ht hW))
  have C6 := Lib.hid (fun W => e13l W)
  have HB : Hid (Below w.heap.size w w) := Below.refl _ _
  clear ht
  go_enter Tryd.func10, Tryd.ntmps10
  go_wp2_with fail
  refine (K1.out _).mono ?_
  rintro e u1 ⟨rfl, hF, hb⟩
  have HF := Lib.hid hF
  have HB := Lib.hid (below_then HB.out hb)
  clear hF hb
  go_wp2_with fail
  refine (C1.out _ _ _ HF.out).mono ?_
  rintro e w1 ⟨rfl, hb⟩
  have hbb := below_then HB.out hb
  have HB := Lib.hid (hbb.alloc hbb.size (.cells #[.bool false, .bool false, .bool true, .bool false, .bool false, .bool false, .int .i64 5, .int .i64 (-1), .int .i64 (-1)] 23))
  have Z1 := Lib.hid (heap_alloc_new w1 (.cells #[.bool false, .bool false, .bool true, .bool false, .bool false, .bool false, .int .i64 5, .int .i64 (-1), .int .i64 (-1)] 23))
  clear hb hbb HF
  go_wp2_with fail
  refine (K2.out _).mono ?_
  rintro e u2 ⟨rfl, hF, hb⟩
  rw [show (w1.alloc (.cells #[.bool false, .bool false, .bool true, .bool false, .bool false, .bool false, .int .i64 5, .int .i64 (-1), .int .i64 (-1)] 23)).heap.size = w1.heap.size + 1 by simp] at hF
  have HF := Lib.hid hF
  have HB := Lib.hid (below_then HB.out hb)
  have Z1 := Lib.hid (zero_still hb Z1.out)
  clear hF hb
  go_wp2_with fail
  refine (C2.out _ _ _ HF.out).mono ?_
  rintro e w2 ⟨rfl, hb⟩
  have hbb := below_then HB.out hb
  have HB := Lib.hid (hbb.alloc hbb.size (.cells #[.bool false, .bool false, .bool false, .bool false, .bool false, .bool false, .int .i64 0, .int .i64 (-1), .int .i64 (-1)] 23))
  have Z1 := Lib.hid (zero_more (o' := .cells #[.bool false, .bool false, .bool false, .bool false, .bool false, .bool false, .int .i64 0, .int .i64 (-1), .int .i64 (-1)] 23) (zero_still hb Z1.out))
  have Z2 := Lib.hid (heap_alloc_new w2 (.cells #[.bool false, .bool false, .bool false, .bool false, .bool false, .bool false, .int .i64 0, .int .i64 (-1), .int .i64 (-1)] 23))
  clear hb hbb HF
  go_wp2_with fail
  refine (K3.out _).mono ?_
  rintro e u3 ⟨rfl, hF, hb⟩
  rw [show (w2.alloc (.cells #[.bool false, .bool false, .bool false, .bool false, .bool false, .bool false, .int .i64 0, .int .i64 (-1), .int .i64 (-1)] 23)).heap.size = w2.heap.size + 1 by simp] at hF
  have HF := Lib.hid hF
  have HB := Lib.hid (below_then HB.out hb)
  have Z1 := Lib.hid (zero_still hb Z1.out)
  have Z2 := Lib.hid (zero_still hb Z2.out)
  clear hF hb
  go_wp2_with fail
  refine (C3.out _ _ _ HF.out).mono ?_
  rintro e w3 ⟨rfl, hb⟩
  have hbb := below_then HB.out hb
  have HB := Lib.hid (hbb.alloc hbb.size (.cells #[.bool true, .bool true, .bool false, .bool false, .bool false, .bool false, .int .i64 (-1), .int .i64 (-1), .int .i64 (-1)] 23))
  have Z1 := Lib.hid (zero_more (o' := .cells #[.bool true, .bool true, .bool false, .bool false, .bool false, .bool false, .int .i64 (-1), .int .i64 (-1), .int .i64 (-1)] 23) (zero_still hb Z1.out))
  have Z2 := Lib.hid (zero_more (o' := .cells #[.bool true, .bool true, .bool false, .bool false, .bool false, .bool false, .int .i64 (-1), .int .i64 (-1), .int .i64 (-1)] 23) (zero_still hb Z2.out))
  have Z3 := Lib.hid (heap_alloc_new w3 (.cells #[.bool true, .bool true, .bool false, .bool false, .bool false, .bool false, .int .i64 (-1), .int .i64 (-1), .int .i64 (-1)] 23))
  clear hb hbb HF
  have hF := SlF.one (w3.alloc (.cells #[.bool true, .bool true, .bool false, .bool false, .bool false, .bool false, .int .i64 (-1), .int .i64 (-1), .int .i64 (-1)] 23)) 37 (⟨#[80, 114, 97, 103, 109, 97]⟩, ⟨#[110, 111, 45, 99, 97, 99, 104, 101]⟩) ⟨by decide, by decide⟩
  rw [show (w3.alloc (.cells #[.bool true, .bool true, .bool false, .bool false, .bool false, .bool false, .int .i64 (-1), .int .i64 (-1), .int .i64 (-1)] 23)).heap.size = w3.heap.size + 1 by simp] at hF
  have HF := Lib.hid hF
  have HB := Lib.hid (HB.out.alloc HB.out.size (.cells #[.string ⟨#[80, 114, 97, 103, 109, 97]⟩, .string ⟨#[110, 111, 45, 99, 97, 99, 104, 101]⟩] 37))
  have Z1 := Lib.hid (zero_more (o' := .cells #[.string ⟨#[80, 114, 97, 103, 109, 97]⟩, .string ⟨#[110, 111, 45, 99, 97, 99, 104, 101]⟩] 37) Z1.out)
  have Z2 := Lib.hid (zero_more (o' := .cells #[.string ⟨#[80, 114, 97, 103, 109, 97]⟩, .string ⟨#[110, 111, 45, 99, 97, 99, 104, 101]⟩] 37) Z2.out)
  have Z3 := Lib.hid (zero_more (o' := .cells #[.string ⟨#[80, 114, 97, 103, 109, 97]⟩, .string ⟨#[110, 111, 45, 99, 97, 99, 104, 101]⟩] 37) Z3.out)
  clear hF
  go_wp2_with fail
  refine (C4.out _ _ _ HF.out).mono ?_
  rintro e w4 ⟨rfl, hb⟩
  have hbb := below_then HB.out hb
  have HB := Lib.hid (hbb.alloc hbb.size (.cells #[.bool false, .bool true, .bool false, .bool false, .bool false, .bool false, .int .i64 (-1), .int .i64 (-1), .int .i64 (-1)] 23))
  have Z1 := Lib.hid (zero_more (o' := .cells #[.bool false, .bool true, .bool false, .bool false, .bool false, .bool false, .int .i64 (-1), .int .i64 (-1), .int .i64 (-1)] 23) (zero_still hb Z1.out))
  have Z2 := Lib.hid (zero_more (o' := .cells #[.bool false, .bool true, .bool false, .bool false, .bool false, .bool false, .int .i64 (-1), .int .i64 (-1), .int .i64 (-1)] 23) (zero_still hb Z2.out))
  have Z3 := Lib.hid (zero_more (o' := .cells #[.bool false, .bool true, .bool false, .bool false, .bool false, .bool false, .int .i64 (-1), .int .i64 (-1), .int .i64 (-1)] 23) (zero_still hb Z3.out))
  have Z4 := Lib.hid (heap_alloc_new w4 (.cells #[.bool false, .bool true, .bool false, .bool false, .bool false, .bool false, .int .i64 (-1), .int .i64 (-1), .int .i64 (-1)] 23))
  clear hb hbb HF
  obtain ⟨z1_0, z1_1, z1_2, z1_3, z1_4, z1_5, z1_6, z1_7, z1_8⟩ := cel9 Z1.out
  obtain ⟨z2_0, z2_1, z2_2, z2_3, z2_4, z2_5, z2_6, z2_7, z2_8⟩ := cel9 Z2.out
  obtain ⟨z3_0, z3_1, z3_2, z3_3, z3_4, z3_5, z3_6, z3_7, z3_8⟩ := cel9 Z3.out
  obtain ⟨z4_0, z4_1, z4_2, z4_3, z4_4, z4_5, z4_6, z4_7, z4_8⟩ := cel9 Z4.out
  go_wp2_with fail
  refine (C5.out _ HB.out).mono ?_
  rintro e w5 ⟨rfl, hb5⟩
  have HB := Lib.hid (below_then HB.out hb5)
  clear hb5
  go_wp2_with fail
  refine (C6.out _).mono ?_
  rintro e w6 ⟨rfl, hb6⟩
  go_wp2_with fail
  go_ret
  exact ⟨rfl, below_then HB.out hb6⟩

end Go.Proofs.YtmpiahahhkimkaaDoor
end

/-
  Plain facts of layer 13 (P13.4): what is printed says the same.
-/
section
namespace Go.Proofs.YtmpiahahhkimkaaDoor
open Go.RowKit

/-! ### A directive with a value -/
theorem eq_cut {s : ByteArray} {A B : List UInt8} (h : s.data.toList = A ++ 61 :: B) (hn : ∀ x ∈ A, x ≠ 61) : cutA s 61 = mkS A ∧ cutZ s 61 = mkS B ∧ cutOk s 61 = true := by
  have hsz : s.size = A.length + (B.length + 1) := by rw [Lib.size_eq, h, List.length_append, List.length_cons]
  have hlt : A.length < s.size := by omega
  have hat : ∀ (k : Nat) (hk : k < s.size), (A ++ 61 :: B)[k]? = some s[k] := fun k hk => by
    rw [← h, List.getElem?_eq_getElem (by rw [← Lib.size_eq]; exact hk)]; rfl
  have hi : idxOf s 61 = A.length := by
    refine idx_first s 61 (by decide) (by decide) A.length hlt ?_ fun k hk => ?_
    · have := hat A.length hlt
      rw [List.getElem?_append_right (Nat.le_refl _), Nat.sub_self, List.getElem?_cons_zero, Option.some.injEq] at this
      rw [← this]; rfl
    · have h2 := hat k (by omega)
      rw [List.getElem?_append_left hk] at h2
      obtain ⟨h3, h4⟩ := List.getElem?_eq_some_iff.1 h2
      have h5 := hn _ (List.getElem_mem h3)
      rw [h4] at h5
      intro e
      apply h5
      rw [← UInt8.toNat_inj]
      have : (s[k].toNat : Int) = 61 := e
      have h61 : (61 : UInt8).toNat = 61 := rfl
      omega
  obtain ⟨e1, e2, e3⟩ := cut_hit hi
  refine ⟨?_, ?_, e3⟩
  · rw [e1, piece_ext]
    congr 1
    unfold piece
    rw [List.drop_zero, h, Nat.sub_zero, List.take_append_of_le_length (Nat.le_refl _), List.take_length]
  · rw [e2, piece_ext, piece_all, h]
    congr 1
    rw [List.drop_append, List.drop_eq_nil_of_le (by omega), List.nil_append, show A.length + 1 - A.length = 1 by omega]
    rfl
theorem dig_tok : ∀ n : Nat, n < 256 → isD 10 (n : Int) = true → tokB (n : Int) = true := by decide +kernel
theorem plain_tok (n : Nat) : tokL (plainL (n : Int)) = true := by
  have e : plainL (n : Int) = digs 10 n := by unfold plainL; rw [if_neg (by omega)]; rfl
  obtain ⟨_, h2⟩ := digs_val 10 n (by omega) (by omega)
  have h3 := digs_pos 10 n
  rw [e]
  unfold tokL
  rw [Bool.and_eq_true, Bool.not_eq_true', List.isEmpty_eq_false_iff]
  refine ⟨fun h => by rw [h] at h3; simp at h3, ?_⟩
  unfold allB at h2 ⊢
  exact List.all_eq_true.2 fun x hx => dig_tok x.toNat x.toNat_lt (List.all_eq_true.1 h2 x hx)
theorem isTok_mk (l : List UInt8) : isTok (mkS l) = tokL l := by
  unfold isTok tokL
  rw [mkS_list, Lib.toList_data, mkS_list]
/-- 'name=digits' is that name and those digits. -/
theorem dv_num {nm l : List UInt8} (ht : tokL nm = true) (hlow : lowL nm = nm) (hn : ∀ x ∈ nm, x ≠ 61) (hl : tokL l = true) : dvO (nm ++ 61 :: l) = some (nm, l) := by
  obtain ⟨c1, c2, c3⟩ := eq_cut (s := mkS (nm ++ 61 :: l)) (mkS_list _) hn
  have h := par_plain (s := mkS (nm ++ 61 :: l)) (by rw [c1, isTok_mk]; exact ht) c3 (by rw [c2, isTok_mk]; exact hl)
  rw [c1, c2, mkS_list, hlow] at h
  unfold dvO
  rw [h.1, h.2.1, h.2.2.2, if_pos rfl, mkS_list, mkS_list]
theorem dv_nums (n : Nat) : dvO (maE.data.toList ++ plainL (n : Int)) = some (maS.data.toList, plainL (n : Int)) ∧ dvO (smE.data.toList ++ plainL (n : Int)) = some (smS.data.toList, plainL (n : Int)) ∧ dvO (mfE.data.toList ++ plainL (n : Int)) = some (mfS.data.toList, plainL (n : Int)) := by
  have e1 : maE.data.toList ++ plainL (n : Int) = maS.data.toList ++ 61 :: plainL (n : Int) := rfl
  have e2 : smE.data.toList ++ plainL (n : Int) = smS.data.toList ++ 61 :: plainL (n : Int) := rfl
  have e3 : mfE.data.toList ++ plainL (n : Int) = mfS.data.toList ++ 61 :: plainL (n : Int) := rfl
  rw [e1, e2, e3]
  exact ⟨dv_num (by decide +kernel) (by decide +kernel) (by decide +kernel) (plain_tok n), dv_num (by decide +kernel) (by decide +kernel) (by decide +kernel) (plain_tok n), dv_num (by decide +kernel) (by decide +kernel) (by decide +kernel) (plain_tok n)⟩
theorem plain_scn : ∀ (l : List UInt8), (∀ c ∈ l, c ≠ 34 ∧ c ≠ 44 ∧ blkU c = false) → scn 0 l = some 0
  | [], _ => rfl
  | c :: r, h => by
    have hc := h c (by simp)
    simp only [scn, hc.2.1, and_false, if_false, nxt_out hc.1]
    exact plain_scn r fun x hx => h x (by simp [hx])
theorem good_plain {l : List UInt8} (hp : ∀ c ∈ l, c ≠ 34 ∧ c ≠ 44 ∧ blkU c = false) (hne : l ≠ []) : Good l := by
  have hb : ∀ c ∈ l, blkU c = false := fun c hc => (hp c hc).2.2
  refine ⟨plain_scn l hp, ?_, hne⟩
  have h1 : l.dropWhile blkU = l := by
    cases l with
    | nil => rfl
    | cons a r => exact List.dropWhile_cons_of_neg (by rw [hb a (by simp)]; decide)
  unfold trimL
  rw [h1]
  unfold rdw
  cases hr : l.reverse with
  | nil => rw [List.reverse_eq_nil_iff] at hr; rw [hr]; rfl
  | cons a r =>
    have ha : a ∈ l := by rw [← List.mem_reverse, hr]; simp
    rw [List.dropWhile_cons_of_neg (by rw [hb a ha]; decide), ← hr, List.reverse_reverse]
theorem tok_bytes {l : List UInt8} (h : tokL l = true) : ∀ c ∈ l, c ≠ 34 ∧ c ≠ 44 ∧ blkU c = false := by
  unfold tokL at h
  simp only [Bool.and_eq_true] at h
  intro c hc
  have := tok_plain c ((List.all_eq_true.1 h.2) c hc)
  exact ⟨this.1, this.2.1, this.2.2.2⟩
theorem good_pair {A B : List UInt8} (hA : tokL A = true) (hB : tokL B = true) : Good (A ++ 61 :: B) := by
  refine good_plain (fun c hc => ?_) (by simp)
  rcases List.mem_append.1 hc with h | h
  · exact tok_bytes hA c h
  · rcases List.mem_cons.1 h with rfl | h
    · decide
    · exact tok_bytes hB c h
theorem good_nums (n : Nat) : Good (maE.data.toList ++ plainL (n : Int)) ∧ Good (smE.data.toList ++ plainL (n : Int)) ∧ Good (mfE.data.toList ++ plainL (n : Int)) := by
  have e1 : maE.data.toList ++ plainL (n : Int) = maS.data.toList ++ 61 :: plainL (n : Int) := rfl
  have e2 : smE.data.toList ++ plainL (n : Int) = smS.data.toList ++ 61 :: plainL (n : Int) := rfl
  have e3 : mfE.data.toList ++ plainL (n : Int) = mfS.data.toList ++ 61 :: plainL (n : Int) := rfl
  rw [e1, e2, e3]
  exact ⟨good_pair (by decide +kernel) (plain_tok n), good_pair (by decide +kernel) (plain_tok n), good_pair (by decide +kernel) (plain_tok n)⟩

/-! ### What is printed -/
theorem mem_if {α : Type} {p : Prop} [Decidable p] {a x : α} (h : x ∈ (if p then [a] else [])) : p ∧ x = a := by
  split at h
  · rename_i hp; exact ⟨hp, by simpa using h⟩
  · cases h
theorem fm_if {α β : Type} (f : α → Option β) {p : Prop} [Decidable p] (a : α) (b : β) (h : p → f a = some b) : (if p then [a] else []).filterMap f = if p then [b] else [] := by
  split
  · rename_i hp; rw [List.filterMap_cons, h hp]; rfl
  · rfl
theorem any_if {α : Type} (f : α → Bool) {p : Prop} [Decidable p] (a : α) : (if p then [a] else []).any f = (decide p && f a) := by
  split <;> simp_all
theorem fold_if {α β : Type} (f : β → α → β) {p : Prop} [Decidable p] (a : α) (b : β) : (if p then [a] else []).foldl f b = if p then f b a else b := by
  split <;> rfl
theorem ctL_good (c : Ctl) : ∀ x ∈ ctL c, Good x := by
  intro x hx
  unfold ctL at hx
  simp only [List.mem_append] at hx
  rcases hx with (((((((h | h) | h) | h) | h) | h) | h) | h) | h
  · rw [(mem_if h).2]; exact good_tok (by decide +kernel)
  · rw [(mem_if h).2]; exact good_tok (by decide +kernel)
  · rw [(mem_if h).2]; exact good_tok (by decide +kernel)
  · rw [(mem_if h).2]; exact good_tok (by decide +kernel)
  · rw [(mem_if h).2]; exact good_tok (by decide +kernel)
  · rw [(mem_if h).2]; exact good_tok (by decide +kernel)
  · obtain ⟨hp, e⟩ := mem_if h
    rw [e, show c.ma = (c.ma.toNat : Int) by omega]; exact (good_nums _).1
  · obtain ⟨hp, e⟩ := mem_if h
    rw [e, show c.sh = (c.sh.toNat : Int) by omega]; exact (good_nums _).2.1
  · obtain ⟨hp, e⟩ := mem_if h
    rw [e, show c.mf = (c.mf.toNat : Int) by omega]; exact (good_nums _).2.2
def ctW (c : Ctl) : List Dv :=
  (if c.ns then [(nsS.data.toList, [])] else []) ++ (if c.nc then [(ncS.data.toList, [])] else []) ++ (if c.pv then [(pvS.data.toList, [])] else []) ++ (if c.pu then [(puS.data.toList, [])] else []) ++ (if c.mc then [(mrS.data.toList, [])] else []) ++ (if c.oi then [(oiS.data.toList, [])] else []) ++
  (if 0 ≤ c.ma then [(maS.data.toList, plainL c.ma)] else []) ++ (if 0 ≤ c.sh then [(smS.data.toList, plainL c.sh)] else []) ++ (if 0 ≤ c.mf then [(mfS.data.toList, plainL c.mf)] else [])
theorem dv_tok {l : List UInt8} (ht : tokL l = true) (hlow : lowL l = l) : dvO l = some (l, []) := by
  have hno : cutOk (mkS l) 61 = false ∧ cutA (mkS l) 61 = mkS l := by
    have h1 : idxOf (mkS l) 61 = -1 := by
      refine idx_none _ 61 (by decide) (by decide) fun k hk => ?_
      have hm : (mkS l)[k] ∈ l := by
        have : (mkS l).data.toList[k]? = some (mkS l)[k] := by rw [List.getElem?_eq_getElem (by rw [← Lib.size_eq]; exact hk)]; rfl
        rw [mkS_list] at this
        exact List.mem_of_getElem? this
      have h2 := ht
      unfold tokL at h2
      simp only [Bool.and_eq_true] at h2
      have h3 := (tok_plain _ ((List.all_eq_true.1 h2.2) _ hm)).2.2.1
      intro e
      exact h3 (byte_eq (n := 61) (by omega) (by simpa using e))
    exact ⟨(cut_miss h1).2.2, (cut_miss h1).1⟩
  have h := par_bare (s := mkS l) (by rw [hno.2, isTok_mk]; exact ht) hno.1
  rw [hno.2, mkS_list, hlow] at h
  unfold dvO
  rw [h.1, h.2.1, h.2.2.2, if_pos rfl, mkS_list]
theorem ctW_dv (c : Ctl) : (ctL c).filterMap dvO = ctW c := by
  unfold ctL ctW
  simp only [List.filterMap_append]
  congr 1
  · congr 1
    · congr 1
      · congr 1
        · congr 1
          · congr 1
            · congr 1
              · congr 1
                · exact fm_if _ _ _ fun _ => dv_tok (by decide +kernel) (by decide +kernel)
                · exact fm_if _ _ _ fun _ => dv_tok (by decide +kernel) (by decide +kernel)
              · exact fm_if _ _ _ fun _ => dv_tok (by decide +kernel) (by decide +kernel)
            · exact fm_if _ _ _ fun _ => dv_tok (by decide +kernel) (by decide +kernel)
          · exact fm_if _ _ _ fun _ => dv_tok (by decide +kernel) (by decide +kernel)
        · exact fm_if _ _ _ fun _ => dv_tok (by decide +kernel) (by decide +kernel)
      · exact fm_if _ _ _ fun hp => by rw [show c.ma = (c.ma.toNat : Int) by omega]; exact (dv_nums _).1
    · exact fm_if _ _ _ fun hp => by rw [show c.sh = (c.sh.toNat : Int) by omega]; exact (dv_nums _).2.1
  · exact fm_if _ _ _ fun hp => by rw [show c.mf = (c.mf.toNat : Int) by omega]; exact (dv_nums _).2.2
theorem sec_num {n : Int} (h : 0 ≤ n) (h2 : n ≤ 2147483648) : secN (plainL n) = n ∧ secB (plainL n) = true := by
  obtain ⟨h3, h4⟩ := back_sec n.toNat
  rw [show (n.toNat : Int) = n by omega] at h3 h4
  refine ⟨?_, h4⟩
  rw [h3]
  split <;> omega
def CtR (c : Ctl) : Prop := (-1 ≤ c.ma ∧ c.ma ≤ 2147483648) ∧ (-1 ≤ c.sh ∧ c.sh ≤ 2147483648) ∧ (-1 ≤ c.mf ∧ c.mf ≤ 2147483648)
theorem ctW_lst (c : Ctl) (h : CtR c) : lstD (ctW c) maS = c.ma ∧ lstD (ctW c) smS = c.sh ∧ grtD (ctW c) mfS = c.mf := by
  obtain ⟨⟨a1, a2⟩, ⟨b1, b2⟩, ⟨c1, c2⟩⟩ := h
  unfold lstD grtD ctW
  simp only [List.foldl_append, fold_if]
  refine ⟨?_, ?_, ?_⟩
  · simp [lstS, nsS, ncS, pvS, puS, mrS, oiS, maS, smS, mfS]
    by_cases hp : 0 ≤ c.ma
    · rw [if_pos hp, (sec_num hp a2).1]; unfold leaN; omega
    · rw [if_neg hp]; omega
  · simp [lstS, nsS, ncS, pvS, puS, mrS, oiS, maS, smS, mfS]
    by_cases hp : 0 ≤ c.sh
    · rw [if_pos hp, (sec_num hp b2).1]; unfold leaN; omega
    · rw [if_neg hp]; omega
  · simp [grtS, nsS, ncS, pvS, puS, mrS, oiS, maS, smS, mfS]
    by_cases hp : 0 ≤ c.mf
    · rw [if_pos hp, (sec_num hp c2).1, (sec_num hp c2).2]; simp; omega
    · rw [if_neg hp]; omega
theorem ctW_has (c : Ctl) : hasD (ctW c) nsS = c.ns ∧ hasD (ctW c) ncS = c.nc ∧ hasD (ctW c) pvS = c.pv ∧ hasD (ctW c) puS = c.pu ∧ hasD (ctW c) mrS = c.mc ∧ hasD (ctW c) xrS = false ∧ hasD (ctW c) oiS = c.oi := by
  unfold hasD ctW
  simp only [List.any_append, any_if]
  refine ⟨?_, ?_, ?_, ?_, ?_, ?_, ?_⟩ <;> simp [nsS, ncS, pvS, puS, mrS, xrS, oiS, maS, smS, mfS]
theorem ctS_split (c : Ctl) : splO (ctS c).data.toList = ctL c ∧ splE (ctS c).data.toList = 0 := by
  unfold ctS
  rw [mkS_list]
  have h := split_join (ctL_good c)
  exact ⟨by unfold splO; rw [h]; rfl, by unfold splE; rw [h]; rfl⟩
theorem fdAll_one (v : ByteArray) : fdAll [(ccS, v)] ccS = [v.data.toList] := by
  unfold fdAll
  have h : sameB ccS ccS = true := by decide +kernel
  rw [List.filter_cons_of_pos (by exact h)]; rfl
theorem ct_back (c : Ctl) (h : CtR c) : ctP [(ccS, ctS c)] = c ∧ ctA [(ccS, ctS c)] = c := by
  have hP : ctP [(ccS, ctS c)] = c := by
    unfold ctP
    rw [fdAll_one]
    have hd : dvs [(ctS c).data.toList] = ctW c := by
      unfold dvs
      rw [List.flatMap_cons, List.flatMap_nil, List.append_nil]
      unfold dvV
      rw [(ctS_split c).1, ctW_dv]
    have hf : fnV [(ctS c).data.toList] = true := by
      unfold fnV
      simp [(ctS_split c).2]
    obtain ⟨l1, l2, l3⟩ := ctW_lst c h
    obtain ⟨h1, h2, h3, h4, h5, h6, h7⟩ := ctW_has c
    rw [hd, hf]
    unfold ctD
    rw [l1, l2, l3, h1, h2, h3, h4, h5, h6, h7]
    simp
  refine ⟨hP, ?_⟩
  unfold ctA
  rw [hP, fdAll_one, if_neg (by simp)]
theorem len_if {α : Type} {p : Prop} [Decidable p] (a : α) : (if p then [a] else []).length ≤ 1 := by split <;> simp
theorem plain_short {n : Int} (h : 0 ≤ n) (h2 : n ≤ 2147483648) : (plainL n).length ≤ 10 := by
  have e : plainL n = digs 10 n.toNat := by unfold plainL; rw [if_neg (by omega)]
  rw [e]
  exact digs_len 10 9 n.toNat (by omega) (by omega)
theorem ctS_size (c : Ctl) (h : CtR c) : (ctS c).size ≤ 378 := by
  obtain ⟨⟨a1, a2⟩, ⟨b1, b2⟩, ⟨c1, c2⟩⟩ := h
  unfold ctS
  rw [Lib.size_eq, mkS_list]
  have hl : (ctL c).length ≤ 9 := by
    have h1 := len_if (p := c.ns = true) nsS.data.toList
    have h2 := len_if (p := c.nc = true) ncS.data.toList
    have h3 := len_if (p := c.pv = true) pvS.data.toList
    have h4 := len_if (p := c.pu = true) puS.data.toList
    have h5 := len_if (p := c.mc = true) mrS.data.toList
    have h6 := len_if (p := c.oi = true) oiS.data.toList
    have h7 := len_if (p := 0 ≤ c.ma) (maE.data.toList ++ plainL c.ma)
    have h8 := len_if (p := 0 ≤ c.sh) (smE.data.toList ++ plainL c.sh)
    have h9 := len_if (p := 0 ≤ c.mf) (mfE.data.toList ++ plainL c.mf)
    unfold ctL
    simp only [List.length_append]
    omega
  refine join_le (ctL c) 9 40 hl fun x hx => ?_
  unfold ctL at hx
  simp only [List.mem_append] at hx
  rcases hx with (((((((h | h) | h) | h) | h) | h) | h) | h) | h
  · rw [(mem_if h).2]; decide
  · rw [(mem_if h).2]; decide
  · rw [(mem_if h).2]; decide
  · rw [(mem_if h).2]; decide
  · rw [(mem_if h).2]; decide
  · rw [(mem_if h).2]; decide
  · obtain ⟨hp, e⟩ := mem_if h
    have := plain_short hp a2
    rw [e, List.length_append, show maE.data.toList.length = 8 from rfl]; omega
  · obtain ⟨hp, e⟩ := mem_if h
    have := plain_short hp b2
    rw [e, List.length_append, show smE.data.toList.length = 9 from rfl]; omega
  · obtain ⟨hp, e⟩ := mem_if h
    have := plain_short hp c2
    rw [e, List.length_append, show mfE.data.toList.length = 10 from rfl]; omega

end Go.Proofs.YtmpiahahhkimkaaDoor
end

/-
  Plain facts of layer 13 (P13.4): the order of elements, and in how many fields they stand, changes nothing.
-/
section
namespace Go.Proofs.YtmpiahahhkimkaaDoor
open Go.RowKit

theorem fold_swap {α β : Type} (f : β → α → β) (hc : ∀ n a b, f (f n a) b = f (f n b) a) (a : α) : ∀ (l : List α) (n : β), l.foldl f (f n a) = f (l.foldl f n) a
  | [], n => rfl
  | b :: r, n => by
    rw [List.foldl_cons, List.foldl_cons, hc n a b]
    exact fold_swap f hc a r (f n b)
theorem fold_rev {α β : Type} (f : β → α → β) (hc : ∀ n a b, f (f n a) b = f (f n b) a) : ∀ (l : List α) (n : β), l.reverse.foldl f n = l.foldl f n
  | [], n => rfl
  | a :: r, n => by
    rw [List.reverse_cons, List.foldl_append, fold_rev f hc r n, List.foldl_cons, List.foldl_cons, List.foldl_nil, fold_swap f hc]
theorem lea_comm (n a b : Int) : leaN (leaN n a) b = leaN (leaN n b) a := by
  unfold leaN
  repeat' split
  all_goals omega
theorem lst_comm (nm : ByteArray) (n : Int) (a b : Dv) : lstS nm (lstS nm n a) b = lstS nm (lstS nm n b) a := by
  unfold lstS
  cases a.1 == nm.data.toList <;> cases b.1 == nm.data.toList <;> simp [lea_comm n (secN a.2) (secN b.2)]
theorem grt_comm (nm : ByteArray) (n : Int) (a b : Dv) : grtS nm (grtS nm n a) b = grtS nm (grtS nm n b) a := by
  unfold grtS
  generalize (if secB a.2 then secN a.2 else 2147483648) = x
  generalize (if secB b.2 then secN b.2 else 2147483648) = y
  cases a.1 == nm.data.toList <;> cases b.1 == nm.data.toList <;> simp
  omega
theorem ctD_rev (D : List Dv) (f : Bool) : ctD D.reverse f = ctD D f := by
  unfold ctD hasD lstD grtD
  simp only [List.any_reverse, fold_rev _ (lst_comm _), fold_rev _ (grt_comm _)]

/-! ### One value, its elements the other way round, and each in a field -/
def Gd (l : List (List UInt8)) : Prop := ∀ x ∈ l, Good x
theorem dvs_one (v : List UInt8) : dvs [v] = dvV v := by
  unfold dvs
  rw [List.flatMap_cons, List.flatMap_nil, List.append_nil]
theorem ord_one {s : ByteArray} {l : List (List UInt8)} (h1 : splO s.data.toList = l) (h2 : splE s.data.toList = 0) : ctP [(ccS, s)] = ctD (l.filterMap dvO) true := by
  unfold ctP
  rw [fdAll_one, dvs_one]
  unfold dvV fnV
  rw [h1]
  simp [h2]
theorem ord_bad {s : ByteArray} (h2 : splE s.data.toList ≠ 0) : (ctP [(ccS, s)]).ns = true ∧ (ctP [(ccS, s)]).nc = true := by
  unfold ctP
  rw [fdAll_one]
  unfold ctD fnV
  simp [h2]
theorem ord_back {l : List (List UInt8)} (h : Gd l) : ctP [(ccS, mkS (Lib.join l.reverse [44, 32]))] = ctD (l.filterMap dvO) true := by
  have hg : Gd l.reverse := fun x hx => h x (List.mem_reverse.1 hx)
  have hs := split_join hg
  have e1 : splO (mkS (Lib.join l.reverse [44, 32])).data.toList = l.reverse := by rw [mkS_list]; unfold splO; rw [hs]; rfl
  have e2 : splE (mkS (Lib.join l.reverse [44, 32])).data.toList = 0 := by rw [mkS_list]; unfold splE; rw [hs]; rfl
  rw [ord_one e1 e2, List.filterMap_reverse, ctD_rev]
def lcS : ByteArray := ⟨#[99, 97, 99, 104, 101, 45, 67, 79, 78, 84, 82, 79, 76]⟩
def xS : ByteArray := ⟨#[88]⟩
/-- The two fields of an element. -/
def twoF (x : List UInt8) : List Fd := [(lcS, mkS x), (xS, nsS)]
theorem all_two (x : List UInt8) : fdAll (twoF x) ccS = [x] := by
  have h1 : sameB lcS ccS = true := by decide +kernel
  have h2 : sameB xS ccS = false := by decide +kernel
  unfold fdAll twoF
  simp [h1, h2, mkS_list]
theorem all_app (A B : List Fd) (n : ByteArray) : fdAll (A ++ B) n = fdAll A n ++ fdAll B n := by
  unfold fdAll; rw [List.filter_append, List.map_append]
theorem all_each : ∀ l : List (List UInt8), fdAll (l.flatMap twoF) ccS = l
  | [] => rfl
  | x :: r => by rw [List.flatMap_cons, all_app, all_two, all_each r]; rfl
theorem good_alone {x : List UInt8} (h : Good x) : splO x = [x] ∧ splE x = 0 := by
  have hs := split_join (L := [x]) (fun y hy => by rw [List.mem_singleton] at hy; subst hy; exact h)
  have e : Lib.join [x] [44, 32] = x := Lib.join_one x _
  rw [e] at hs
  exact ⟨by unfold splO; rw [hs]; rfl, by unfold splE; rw [hs]; rfl⟩
theorem dvs_each : ∀ l : List (List UInt8), Gd l → dvs l = l.filterMap dvO
  | [], _ => rfl
  | x :: r, h => by
    have ih := dvs_each r fun y hy => h y (by simp [hy])
    have hx := (good_alone (h x (by simp))).1
    unfold dvs at ih ⊢
    rw [List.flatMap_cons, ih]
    unfold dvV
    rw [hx]
    rw [show (x :: r) = [x] ++ r from rfl, List.filterMap_append]
theorem fn_each {l : List (List UInt8)} (h : Gd l) : fnV l = true := by
  unfold fnV
  rw [List.all_eq_true]
  intro x hx
  simp [(good_alone (h x hx)).2]
theorem ord_each {l : List (List UInt8)} (h : Gd l) : ctP (l.reverse.flatMap twoF) = ctD (l.filterMap dvO) true := by
  have hg : Gd l.reverse := fun x hx => h x (List.mem_reverse.1 hx)
  unfold ctP
  rw [all_each, dvs_each _ hg, fn_each hg, List.filterMap_reverse, ctD_rev]
theorem ord_nil : ctD [] true = ⟨false, false, false, false, false, false, -1, -1, -1⟩ := by rfl
theorem two_len : ∀ l : List (List UInt8), (l.flatMap twoF).length = 2 * l.length
  | [] => rfl
  | x :: r => by
    rw [List.flatMap_cons, List.length_append, two_len r, List.length_cons, show (twoF x).length = 2 from rfl]
    omega

/-! ### How long -/
def sumL (l : List (List UInt8)) : Nat := (l.map List.length).sum
theorem sum_app (A B : List (List UInt8)) : sumL (A ++ B) = sumL A + sumL B := by unfold sumL; rw [List.map_append, List.sum_append]
theorem sum_rev (A : List (List UInt8)) : sumL A.reverse = sumL A := by unfold sumL; rw [List.map_reverse, List.sum_reverse]
theorem addE_sum (out : List (List UInt8)) (part : List UInt8) : sumL (addE out part) ≤ sumL out + part.length := by
  unfold addE
  split
  · omega
  · rw [sum_app]
    have := trim_len part
    have e : sumL [trimL part] = (trimL part).length := by simp [sumL]
    omega
theorem spl_sum : ∀ (l : List UInt8) (q : Nat) (part : List UInt8) (out L : List (List UInt8)), spl q part out l = some L → sumL L ≤ sumL out + part.length + l.length
  | [], q, part, out, L, h => by
    simp only [spl] at h
    split at h
    · cases h
      have := addE_sum out part
      simp; omega
    · cases h
  | c :: r, q, part, out, L, h => by
    simp only [spl] at h
    split at h
    · have h1 := spl_sum r _ _ _ _ h
      have h2 := addE_sum out part
      simp only [List.length_cons, List.length_nil] at h1 ⊢
      omega
    · have h1 := spl_sum r _ _ _ _ h
      simp only [List.length_append, List.length_cons, List.length_nil] at h1 ⊢
      omega
theorem tail_len : ∀ l : List (List UInt8), (Lib.joinTail [44, 32] l).length = sumL l + 2 * l.length
  | [] => rfl
  | x :: r => by
    have ih := tail_len r
    have e : Lib.joinTail [44, 32] (x :: r) = [44, 32] ++ x ++ Lib.joinTail [44, 32] r := rfl
    rw [e, List.length_append, List.length_append, ih]
    unfold sumL
    simp only [List.map_cons, List.sum_cons, List.length_cons, List.length_nil]
    omega
theorem join_sum (l : List (List UInt8)) : (Lib.join l [44, 32]).length ≤ sumL l + 2 * l.length := by
  cases l with
  | nil => simp [Lib.join]
  | cons x r =>
    have := tail_len r
    rw [Lib.join_cons, List.length_append, this]
    unfold sumL
    simp only [List.map_cons, List.sum_cons, List.length_cons]
    omega
theorem back_size {s : ByteArray} {l : List (List UInt8)} (h1 : splO s.data.toList = l) (h2 : splE s.data.toList = 0) : sumL l ≤ s.size ∧ Gd l ∧ ∀ x ∈ l, x.length ≤ s.size := by
  unfold splO at h1
  unfold splE at h2
  cases hs : splitL s.data.toList with
  | none => rw [hs] at h2; exact absurd h2 (by decide)
  | some L =>
    rw [hs] at h1
    have h1 : L = l := h1
    subst h1
    have h3 := spl_sum _ _ _ _ _ hs
    have h4 := split_good hs
    rw [← Lib.size_eq] at h3 h4
    refine ⟨?_, fun x hx => (h4.1 x hx).1, fun x hx => (h4.1 x hx).2⟩
    simp [sumL] at h3 ⊢
    exact h3

end Go.Proofs.YtmpiahahhkimkaaDoor
end
