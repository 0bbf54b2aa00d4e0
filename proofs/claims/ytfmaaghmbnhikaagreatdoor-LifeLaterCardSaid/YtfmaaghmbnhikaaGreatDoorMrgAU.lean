/-
  Texts that the laws of this seat lean on, one behind the other.
-/
import Derived.Test.YtfmaaghmbnhikaaGreatDoorMrgAT
import Derived.Test.YtfmaaghmbnhikaaGreatDoorMrgAE
/-
  Plain facts on what package date's read finds in the three forms, and on what its Parse answers.
-/
section
namespace Go.Proofs.YtfmaaghmbnhikaaGreatDoor
open Go.RowKit

def layF : Lay := ⟨24, 0, 3, 7, 4, 12⟩
def layO : Lay := ⟨22, 0, 3, 7, 2, 10⟩
def layP : Lay := ⟨20, 4, 0, 16, 4, 7⟩
theorem layF_ok : layF.Ok := ⟨by decide, by decide, by decide, by decide, by decide, by decide, by decide, by decide, by decide, by decide⟩
theorem layO_ok : layO.Ok := ⟨by decide, by decide, by decide, by decide, by decide, by decide, by decide, by decide, by decide, by decide⟩
theorem layP_ok : layP.Ok := ⟨by decide, by decide, by decide, by decide, by decide, by decide, by decide, by decide, by decide, by decide⟩

theorem lastB_list (s : ByteArray) (z : Int) : (lastB s z).data.toList = s.data.toList.drop (s.size - z.toNat) := by
  unfold lastB
  rw [piece_ext]
  unfold piece
  rw [List.take_of_length_le (by rw [List.length_drop, ← Lib.size_eq]; omega)]; rfl
theorem nbr_at {t : ByteArray} {l : List UInt8} (ht : t.data.toList = l) (a n : Int) (A k : Nat) (ha : a = A) (hn : n = k) (p : List UInt8) (hp : (l.drop A).take k = p) (v : Nat) (hv : numN 10 18 9999 (p.dropWhile (· == 32)) = v) : nbrI t a n = v := by
  subst ha hn
  unfold nbrI nbrN piece
  rw [ht, Int.toNat_natCast, Int.toNat_natCast, Nat.add_sub_cancel_left, hp, hv]
theorem mon_at {t : ByteArray} {l : List UInt8} (ht : t.data.toList = l) (a : Int) (A : Nat) (ha : a = A) (M : Nat) (h0 : 1 ≤ M) (h1 : M ≤ 12) (hp : (l.drop A).take 3 = monL M) : monI t a = M := by
  subst ha
  unfold monI monN
  rw [ht, Int.toNat_natCast, hp, mIdx_mon M (by omega) h0, if_neg (by omega)]
theorem dch_ink : ∀ d : Nat, d < 10 → (dch d == 32) = false := by decide
theorem two_drop (n : Nat) (h : n < 100) : numN 10 18 9999 ((two n).dropWhile (· == 32)) = n := by
  have e : (two n).dropWhile (· == 32) = two n := by
    unfold two
    rw [List.dropWhile_cons, dch_ink _ (by omega)]; rfl
  rw [e, (num_two n h).1]
theorem four_drop (n : Nat) (h : n < 10000) : numN 10 18 9999 ((four n).dropWhile (· == 32)) = n := by
  have e : (four n).dropWhile (· == 32) = four n := by
    unfold four
    rw [List.dropWhile_cons, dch_ink _ (by omega)]; rfl
  rw [e, (num_four n h).1]
theorem twoL_drop (n : Nat) (h : n < 100) : numN 10 18 9999 ((twoL n).dropWhile (· == 32)) = n := by
  unfold twoL
  by_cases h10 : n < 10
  · rw [if_pos h10, plain_one h10, List.dropWhile_cons, List.dropWhile_cons, dch_ink n h10]
    exact (num_one n h10).1
  · rw [if_neg h10, plain_two (by omega) h]
    exact two_drop n h

theorem dRd_at {t : ByteArray} (L : Lay) {T Y M E : Nat} (hp : Parts T Y M E) (hY : rdY t L = Y) (hM : monI t L.m = M) (hD : nbrI t L.d 2 = E) (hH : nbrI t L.c 2 = ((T % 86400 / 3600 : Nat) : Int)) (hI : nbrI t (L.c + 3) 2 = ((T % 86400 / 60 % 60 : Nat) : Int)) (hJ : nbrI t (L.c + 6) 2 = ((T % 86400 % 60 : Nat) : Int)) :
    rdB t L = true ∧ rdV t L = T := by
  have v := hp.date.v
  have hv : ValidI (Y : Int) (M : Int) (E : Int) := ⟨by have := v.y0; omega, by have := v.y1; omega, by have := v.m0; omega, by have := v.m1; omega, by have := v.d0; omega, by have := v.d1; simp only [Int.toNat_natCast]; omega⟩
  have hday := day_yes hv
  simp only [Int.toNat_natCast] at hday
  have he := hp.date.e
  unfold rdB rdV
  rw [hY, hM, hD, hH, hI, hJ, hday.1, hday.2, he]
  exact ⟨rfl, by omega⟩
theorem rd12 {s : ByteArray} {L : Lay} {T : Int} (hz : L.z ≤ (s.size : Int)) (h : rdB (lastB s L.z) L = true ∧ rdV (lastB s L.z) L = T) : rd1 s L = T ∧ rd2 s L = true := by
  unfold rd1 rd2
  rw [if_neg (by rw [h.1]; rintro (h' | h'); omega; cases h'), h.2, h.1, decide_eq_true hz]
  exact ⟨rfl, rfl⟩

theorem f_back {s : ByteArray} {T : Nat} (h : T ≤ 253402300799) (hs : s.data.toList = fmtL T) : rd1 s layF = T ∧ rd2 s layF = true := by
  obtain ⟨Y, M, E, hp⟩ := parts_of T h
  obtain ⟨⟨b1, b2⟩, ⟨b3, b4⟩, b5, b6⟩ := hp.bd
  have hlen := fmt_len h
  have hz : s.size = 29 := by rw [Lib.size_eq, hs, hlen]
  obtain ⟨a, b, c, x, y, z, hm, hl⟩ := fmt_list hp
  have ht : (lastB s layF.z).data.toList = two E ++ [32, x, y, z, 32] ++ four Y ++ [32] ++ two (T % 86400 / 3600) ++ [58] ++ two (T % 86400 / 60 % 60) ++ [58] ++ two (T % 86400 % 60) ++ [32, 71, 77, 84] := by
    rw [lastB_list, hz, hs, hl]; rfl
  refine rd12 (by rw [hz]; decide) (dRd_at layF hp ?_ ?_ ?_ ?_ ?_ ?_)
  · show (if (4 : Int) = 2 then _ else _) = _
    rw [if_neg (by decide)]
    exact nbr_at ht _ _ 7 4 rfl rfl (four Y) rfl Y (four_drop Y (by omega))
  · exact mon_at ht _ 3 rfl M b3 b4 (by rw [hm]; rfl)
  · exact nbr_at ht _ _ 0 2 rfl rfl (two E) rfl E (two_drop E (by omega))
  · exact nbr_at ht _ _ 12 2 rfl rfl _ rfl _ (two_drop _ (by omega))
  · exact nbr_at ht _ _ 15 2 rfl rfl _ rfl _ (two_drop _ (by omega))
  · exact nbr_at ht _ _ 18 2 rfl rfl _ rfl _ (two_drop _ (by omega))
theorem o_back {s : ByteArray} {T : Nat} (h : T ≤ 3155759999) (hs : s.data.toList = oldL T) : rd1 s layO = T ∧ rd2 s layO = true := by
  obtain ⟨Y, M, E, hp⟩ := parts_of T (by omega)
  obtain ⟨⟨b1, b2⟩, ⟨b3, b4⟩, b5, b6⟩ := hp.bd
  have hY := old_year hp h
  obtain ⟨x, y, z, hm, hl⟩ := old_list hp
  have hd := day_len _ (wd_lt (T / 86400))
  obtain ⟨D, hD⟩ : ∃ D, D = dayL (wdD (T / 86400)) := ⟨_, rfl⟩
  rw [← hD] at hl hd
  obtain ⟨R, hR⟩ : ∃ R, R = two E ++ [45, x, y, z, 45] ++ two (Y % 100) ++ [32] ++ two (T % 86400 / 3600) ++ [58] ++ two (T % 86400 / 60 % 60) ++ [58] ++ two (T % 86400 % 60) ++ [32, 71, 77, 84] := ⟨_, rfl⟩
  have hl2 : oldL T = D ++ [44, 32] ++ R := by rw [hl, hR]; simp
  have hRl : R.length = 22 := by rw [hR]; simp [two]
  have hz : s.size = D.length + 24 := by rw [Lib.size_eq, hs, hl2]; simp [hRl]
  have ht : (lastB s layO.z).data.toList = R := by
    rw [lastB_list, hz, hs, hl2, show D.length + 24 - layO.z.toNat = (D ++ [44, 32]).length by simp [layO], List.drop_left]
  rw [hR] at ht
  refine rd12 (by rw [hz]; show (22 : Int) ≤ _; omega) (dRd_at layO hp ?_ ?_ ?_ ?_ ?_ ?_)
  · show (if (2 : Int) = 2 then fullY (nbrI _ 7 2) else _) = _
    rw [if_pos rfl, nbr_at ht 7 2 7 2 rfl rfl (two (Y % 100)) rfl (Y % 100) (two_drop _ (by omega))]
    unfold fullY
    split <;> omega
  · exact mon_at ht _ 3 rfl M b3 b4 (by rw [hm]; rfl)
  · exact nbr_at ht _ _ 0 2 rfl rfl (two E) rfl E (two_drop E (by omega))
  · exact nbr_at ht _ _ 10 2 rfl rfl _ rfl _ (two_drop _ (by omega))
  · exact nbr_at ht _ _ 13 2 rfl rfl _ rfl _ (two_drop _ (by omega))
  · exact nbr_at ht _ _ 16 2 rfl rfl _ rfl _ (two_drop _ (by omega))
theorem p_back {s : ByteArray} {T : Nat} (h : T ≤ 253402300799) (hs : s.data.toList = plnL T) : rd1 s layP = T ∧ rd2 s layP = true := by
  obtain ⟨Y, M, E, hp⟩ := parts_of T h
  obtain ⟨⟨b1, b2⟩, ⟨b3, b4⟩, b5, b6⟩ := hp.bd
  have hlen := pln_len h
  have hz : s.size = 24 := by rw [Lib.size_eq, hs, hlen]
  obtain ⟨a, b, c, x, y, z, u, v, hm, hu, hl⟩ := pln_list hp
  have ht : (lastB s layP.z).data.toList = [x, y, z, 32, u, v, 32] ++ two (T % 86400 / 3600) ++ [58] ++ two (T % 86400 / 60 % 60) ++ [58] ++ two (T % 86400 % 60) ++ [32] ++ four Y := by
    rw [lastB_list, hz, hs, hl]; rfl
  refine rd12 (by rw [hz]; decide) (dRd_at layP hp ?_ ?_ ?_ ?_ ?_ ?_)
  · show (if (4 : Int) = 2 then _ else _) = _
    rw [if_neg (by decide)]
    exact nbr_at ht _ _ 16 4 rfl rfl (four Y) rfl Y (four_drop Y (by omega))
  · exact mon_at ht _ 0 rfl M b3 b4 (by rw [hm]; rfl)
  · exact nbr_at ht _ _ 4 2 rfl rfl (twoL E) (by rw [hu]; rfl) E (twoL_drop E (by omega))
  · exact nbr_at ht _ _ 7 2 rfl rfl _ rfl _ (two_drop _ (by omega))
  · exact nbr_at ht _ _ 10 2 rfl rfl _ rfl _ (two_drop _ (by omega))
  · exact nbr_at ht _ _ 13 2 rfl rfl _ rfl _ (two_drop _ (by omega))

/-- Is a text one of the forms of a time? -/
def oneB (l : List UInt8) (t : Int) : Bool := l == fmtI t || (l == oldI t || l == plnI t)
def hitB (s : ByteArray) (L : Lay) : Bool := rd2 s L && oneB s.data.toList (rd1 s L)
theorem one_reads {l : List UInt8} {t : Int} (hl : l ≠ []) (h : oneB l t = true) : ∃ T : Nat, t = T ∧ Reads l T := by
  unfold oneB at h
  simp only [Bool.or_eq_true, beq_iff_eq] at h
  rcases h with h | h | h
  · unfold fmtI at h
    split at h
    · rename_i hb
      exact ⟨t.toNat, by omega, .inl ⟨by omega, .inl h.symm⟩⟩
    · exact absurd h hl
  · unfold oldI at h
    split at h
    · rename_i hb
      exact ⟨t.toNat, by omega, .inr ⟨by omega, h.symm⟩⟩
    · exact absurd h hl
  · unfold plnI at h
    split at h
    · rename_i hb
      exact ⟨t.toNat, by omega, .inl ⟨by omega, .inr h.symm⟩⟩
    · exact absurd h hl
theorem parT_at {s : ByteArray} {t : Nat} (h : Reads s.data.toList t) : parT s = ((t : Int), 0) := by
  rcases parT_spec s with ⟨u, hu, hr⟩ | ⟨_, hn⟩
  · rw [hu, hr.uniq h]
  · exact absurd h (hn t)
theorem hit_par {s : ByteArray} {L : Lay} (hz : 1 ≤ L.z) (h : hitB s L = true) : parT s = (rd1 s L, 0) := by
  unfold hitB at h
  rw [Bool.and_eq_true] at h
  have hs : s.data.toList ≠ [] := by
    intro e
    have h1 := h.1
    unfold rd2 at h1
    rw [Bool.and_eq_true, decide_eq_true_iff, Lib.size_eq, e] at h1
    have := h1.1
    simp at this
    omega
  obtain ⟨T, hT, hr⟩ := one_reads hs h.2
  rw [parT_at hr, hT]
theorem hit_no {s : ByteArray} (h1 : hitB s layF = false) (h2 : hitB s layO = false) (h3 : hitB s layP = false) : parT s = (0, 24) := by
  rcases parT_spec s with ⟨T, _, hr⟩ | ⟨h, _⟩
  · exfalso
    rcases hr with ⟨hb, h | h⟩ | ⟨hb, h⟩
    · obtain ⟨r1, r2⟩ := f_back hb h.symm
      unfold hitB at h1
      rw [r1, r2] at h1
      simp [oneB, fmtI_nat T hb, h] at h1
    · obtain ⟨r1, r2⟩ := p_back hb h.symm
      unfold hitB at h3
      rw [r1, r2] at h3
      simp [oneB, plnI_nat T hb, h] at h3
    · obtain ⟨r1, r2⟩ := o_back hb h.symm
      unfold hitB at h2
      rw [r1, r2] at h2
      simp [oneB, oldI_nat T hb, h] at h2
  · exact h

end Go.Proofs.YtfmaaghmbnhikaaGreatDoor
end

/-
  Contract of package date's Parse, for every text of at most 10000 bytes.
-/
section
namespace Go.Proofs.YtfmaaghmbnhikaaGreatDoor
open Go.RowKit

theorem rd1_bd (s : ByteArray) (L : Lay) : 0 ≤ rd1 s L ∧ rd1 s L ≤ 1000000000000 := by
  have h1 := dayV_bd (rdY (lastB s L.z) L) (monI (lastB s L.z) L.m) (nbrI (lastB s L.z) L.d 2)
  have h2 := nbrI_bd (lastB s L.z) L.c 2
  have h3 := nbrI_bd (lastB s L.z) (L.c + 3) 2
  have h4 := nbrI_bd (lastB s L.z) (L.c + 6) 2
  unfold rd1 rdV
  split <;> omega
theorem lay_at : ∀ k : Nat, k < 3 → ∃ L : Lay, L.Ok ∧ 1 ≤ L.z ∧ ((k = 0 ∧ L = layF) ∨ (k = 1 ∧ L = layO) ∨ (k = 2 ∧ L = layP)) ∧ (layVs.toArray.extract (k * 6) (k * 6 + 6) = #[.int .i64 L.z, .int .i64 L.d, .int .i64 L.m, .int .i64 L.y, .int .i64 L.n, .int .i64 L.c])
  | 0, _ => ⟨layF, layF_ok, by decide, .inl ⟨rfl, rfl⟩, rfl⟩
  | 1, _ => ⟨layO, layO_ok, by decide, .inr (.inl ⟨rfl, rfl⟩), rfl⟩
  | 2, _ => ⟨layP, layP_ok, by decide, .inr (.inr ⟨rfl, rfl⟩), rfl⟩
  | n + 3, h => by omega
theorem lay_index (W : World) (k : Nat) (hk : k < 3) {cs : Array Value} (h : layVs.toArray.extract (k * 6) (k * 6 + 6) = cs) : (Instr.index 82 (.agg layVs.toArray) (.int .i64 (k : Int))).run Tryz.prog W = .ok (.agg cs) W := by
  rw [run_index_agg (m := 6) Tryz.underlying82 Tryz.underlying81 rfl (by kernel_rfl) _ _ _ (by omega) (by omega), Int.toNat_natCast, h]
/-- None of the first k forms was hit. -/
def missed (s : ByteArray) (k : Nat) : Prop := (1 ≤ k → hitB s layF = false) ∧ (2 ≤ k → hitB s layO = false) ∧ (3 ≤ k → hitB s layP = false)
theorem missed_next {s : ByteArray} {k : Nat} {L : Lay} (hm : missed s k) (hL : (k = 0 ∧ L = layF) ∨ (k = 1 ∧ L = layO) ∨ (k = 2 ∧ L = layP)) (h : hitB s L = false) : missed s (k + 1) := by
  obtain ⟨h1, h2, h3⟩ := hm
  rcases hL with ⟨rfl, rfl⟩ | ⟨rfl, rfl⟩ | ⟨rfl, rfl⟩
  · exact ⟨fun _ => h, fun h' => by omega, fun h' => by omega⟩
  · exact ⟨fun _ => h1 (by omega), fun _ => h, fun h' => by omega⟩
  · exact ⟨fun _ => h1 (by omega), fun _ => h2 (by omega), fun _ => h⟩
theorem eq_str (s : ByteArray) (l : List UInt8) : (s.toList == (mkS l).toList) = (s.data.toList == l) := by rw [Lib.toList_data, Lib.toList_data, mkS_list]

set_option maxHeartbeats 4000000 in
set_option maxRecDepth 100000 in
theorem dParse_any (s : ByteArray) (hs : s.size ≤ 10000) (w : World) (HT : DatTabs w) :
    Calls Tryz.prog 40 #[.string s] w fun e w' => e = .returned (.tuple #[.int .i64 (parT s).1, .int .i64 (parT s).2]) ∧ Below w.heap.size w w' := by
  obtain ⟨ty, fr, hblk⟩ := var_block (g := 1) (by kernel_rfl) HT.lays
  have hla := lay_at
  have hli := fun W k hk cs => @lay_index W k hk cs
  have hsz : layVs.toArray.size = 18 := rfl
  have hms : (Tryz.prog.info? 82).map (·.size) = some layVs.toArray.size := by rw [hsz]; kernel_rfl
  generalize layVs.toArray = LA at *
  have HM := Lib.hid hms
  have HB := Lib.hid hblk
  have HLA := Lib.hid hla
  have HLI := Lib.hid hli
  have HT := Lib.hid HT
  obtain ⟨R, hR⟩ : ∃ R, R = parT s := ⟨_, rfl⟩
  rw [← hR]
  have HR := Lib.hid hR
  have HM0 : Hid (missed s 0) := ⟨fun h => by omega, fun h => by omega, fun h => by omega⟩
  clear hms hblk hla hli hsz hR
  go_enter Tryz.func40, Tryz.ntmps40
  go_wp2_with (refine wpList_load_row rfl _ _ rfl 1 rfl ty LA fr _ HB.out Tryz.underlying82 rfl HM.out ?_)
  go_loopw [9] (fun i wr => ∃ k : Nat, k ≤ 3 ∧ i = .int .i64 (k : Int) ∧ Hid (missed s k) ∧ Below w.heap.size w wr) (fun i _ => 3 - (intOf i).toNat)
  case atStart => exact ⟨0, Nat.zero_le _, rfl, HM0, Below.refl _ _⟩
  case round =>
    obtain ⟨k, hk, rfl, hf, hbel⟩ := hrel
    by_cases hlt : k < 3
    · obtain ⟨L, hok, hz1, hLk, hcut⟩ := HLA.out k hlt
      have hik := fun W => HLI.out W k hlt _ hcut
      have cr := fun W hW => dRead_any s L hok hs W hW
      unfold Lay.val at cr
      have hbd := rd1_bd s L
      have HN : Hid (hitB s L = false → missed s (k + 1)) := fun h => missed_next hf.out hLk h
      have HH : Hid (hitB s L = true → R = (rd1 s L, 0)) := fun h => HR.out.trans (hit_par hz1 h)
      have hhit : hitB s L = (rd2 s L && (s.data.toList == fmtI (rd1 s L) || (s.data.toList == oldI (rd1 s L) || s.data.toList == plnI (rd1 s L)))) := rfl
      obtain ⟨z, d, m, y, n, c⟩ := L
      simp only [] at *
      generalize hitB s ⟨z, d, m, y, n, c⟩ = B at *
      generalize rd1 s ⟨z, d, m, y, n, c⟩ = T at *
      generalize rd2 s ⟨z, d, m, y, n, c⟩ = O at *
      have q1 := eq_str s (fmtI T)
      have q2 := eq_str s (oldI T)
      have q3 := eq_str s (plnI T)
      rw [← q1, ← q2, ← q3] at hhit
      have c1 := fun W hW => format_any T (by omega) W hW
      have c2 := fun W hW => old_any T (by omega) W hW
      have c3 := fun W hW => plain7_any T (by omega) W hW
      clear q1 q2 q3
      generalize mkS (fmtI T) = F at *
      generalize mkS (oldI T) = G at *
      generalize mkS (plnI T) = P at *
      have C := Lib.hid cr
      have C1 := Lib.hid c1
      have C2 := Lib.hid c2
      have C3 := Lib.hid c3
      have hbx := hbel.alloc hbel.size (.cells #[.int .i64 z, .int .i64 d, .int .i64 m, .int .i64 y, .int .i64 n, .int .i64 c] 81)
      have HBX := Lib.hid hbx
      clear cr c1 c2 c3 hbx hok hz1 hLk hcut hf
      cases O with
      | false =>
        have HNN := Lib.hid (HN.out (by rw [hhit]; simp []))
        clear hhit HN HH
        go_wp2_with fail
        refine (C.out _ (HT.out.kept HBX.out)).mono ?_
        rintro e w1 ⟨rfl, hb1⟩
        have hb := below_then HBX.out hb1
        clear hb1
        go_wp2_with fail
        go_roundw
        case rel => exact ⟨k + 1, by omega, by go_num, HNN, hb⟩
        case measure => simp [intOf]; omega
      | true =>
        rcases Bool.eq_false_or_eq_true (s.toList == F.toList) with e1 | e1
        · have HRR := Lib.hid (HH.out (by rw [hhit]; simp [e1]))
          clear hhit HN HH
          go_wp2_with fail
          refine (C.out _ (HT.out.kept HBX.out)).mono ?_
          rintro e w1 ⟨rfl, hb1⟩
          have hb := below_then HBX.out hb1
          clear hb1
          go_wp2_with fail
          refine (C1.out _ (HT.out.kept hb)).mono ?_
          rintro e w2 ⟨rfl, hb2⟩
          have hb := below_then hb hb2
          clear hb2
          go_wp2_with fail
          go_ret2
          exact ⟨by rw [HRR.out]; rfl, hb⟩
        rcases Bool.eq_false_or_eq_true (s.toList == G.toList) with e2 | e2
        · have HRR := Lib.hid (HH.out (by rw [hhit]; simp [e1, e2]))
          clear hhit HN HH
          go_wp2_with fail
          refine (C.out _ (HT.out.kept HBX.out)).mono ?_
          rintro e w1 ⟨rfl, hb1⟩
          have hb := below_then HBX.out hb1
          clear hb1
          go_wp2_with fail
          refine (C1.out _ (HT.out.kept hb)).mono ?_
          rintro e w2 ⟨rfl, hb2⟩
          have hb := below_then hb hb2
          clear hb2
          go_wp2_with fail
          refine (C2.out _ (HT.out.kept hb)).mono ?_
          rintro e w2 ⟨rfl, hb2⟩
          have hb := below_then hb hb2
          clear hb2
          go_wp2_with fail
          go_ret2
          exact ⟨by rw [HRR.out]; rfl, hb⟩
        rcases Bool.eq_false_or_eq_true (s.toList == P.toList) with e3 | e3
        · have HRR := Lib.hid (HH.out (by rw [hhit]; simp [e1, e2, e3]))
          clear hhit HN HH
          go_wp2_with fail
          refine (C.out _ (HT.out.kept HBX.out)).mono ?_
          rintro e w1 ⟨rfl, hb1⟩
          have hb := below_then HBX.out hb1
          clear hb1
          go_wp2_with fail
          refine (C1.out _ (HT.out.kept hb)).mono ?_
          rintro e w2 ⟨rfl, hb2⟩
          have hb := below_then hb hb2
          clear hb2
          go_wp2_with fail
          refine (C2.out _ (HT.out.kept hb)).mono ?_
          rintro e w2 ⟨rfl, hb2⟩
          have hb := below_then hb hb2
          clear hb2
          go_wp2_with fail
          refine (C3.out _ (HT.out.kept hb)).mono ?_
          rintro e w2 ⟨rfl, hb2⟩
          have hb := below_then hb hb2
          clear hb2
          go_wp2_with fail
          go_ret2
          exact ⟨by rw [HRR.out]; rfl, hb⟩
        have HNN := Lib.hid (HN.out (by rw [hhit]; simp [e1, e2, e3]))
        clear hhit HN HH
        go_wp2_with fail
        refine (C.out _ (HT.out.kept HBX.out)).mono ?_
        rintro e w1 ⟨rfl, hb1⟩
        have hb := below_then HBX.out hb1
        clear hb1
        go_wp2_with fail
        refine (C1.out _ (HT.out.kept hb)).mono ?_
        rintro e w2 ⟨rfl, hb2⟩
        have hb := below_then hb hb2
        clear hb2
        go_wp2_with fail
        refine (C2.out _ (HT.out.kept hb)).mono ?_
        rintro e w2 ⟨rfl, hb2⟩
        have hb := below_then hb hb2
        clear hb2
        go_wp2_with fail
        refine (C3.out _ (HT.out.kept hb)).mono ?_
        rintro e w2 ⟨rfl, hb2⟩
        have hb := below_then hb hb2
        clear hb2
        go_wp2_with fail
        go_roundw
        case rel => exact ⟨k + 1, by omega, by go_num, HNN, hb⟩
        case measure => simp [intOf]; omega
    · have HF : Hid (R = (0, 24)) := by
        obtain ⟨h1, h2, h3⟩ := hf.out
        exact HR.out.trans (hit_no (h1 (by omega)) (h2 (by omega)) (h3 (by omega)))
      clear hf
      go_wp2_with fail
      go_ret2
      exact ⟨by rw [HF.out]; rfl, hbel⟩

end Go.Proofs.YtfmaaghmbnhikaaGreatDoor
end
