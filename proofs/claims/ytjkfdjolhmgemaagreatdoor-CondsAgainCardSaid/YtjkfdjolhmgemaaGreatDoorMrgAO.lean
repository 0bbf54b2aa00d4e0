/-
  Texts that the laws of this seat lean on, one behind the other.
-/
import Derived.Test.YtjkfdjolhmgemaaGreatDoorMrgAN
set_option linter.unusedSimpArgs false
set_option linter.unusedVariables false
/-
  Contract of package date's Parse, for every text of at most 10000 bytes.
-/
section
namespace Go.Proofs.YtjkfdjolhmgemaaGreatDoor
open Go.RowKit

theorem rd1_bd (s : ByteArray) (L : Lay) : 0 ≤ rd1 s L ∧ rd1 s L ≤ 1000000000000 := by
  have h1 := dayV_bd (rdY (lastB s L.z) L) (monI (lastB s L.z) L.m) (nbrI (lastB s L.z) L.d 2)
  have h2 := nbrI_bd (lastB s L.z) L.c 2
  have h3 := nbrI_bd (lastB s L.z) (L.c + 3) 2
  have h4 := nbrI_bd (lastB s L.z) (L.c + 6) 2
  unfold rd1 rdV
  split <;> omega
theorem lay_at : ∀ k : Nat, k < 3 → ∃ L : Lay, L.Ok ∧ 1 ≤ L.z ∧ ((k = 0 ∧ L = layF) ∨ (k = 1 ∧ L = layO) ∨ (k = 2 ∧ L = layP)) ∧ (layVs.toArray.extract (k * 6) (k * 6 + 6) = #[.int .i64 L.z, .int .i64 L.d, .int .i64 L.m, .int .i64 L.y, .int .i64 L.n, .int .i64 L.c])
  | 0, _ => ⟨layF, layF_ok, by decide, .inl ⟨rfl, rfl⟩, rfl⟩
  | 1, _ => ⟨layO, layO_ok, by decide, .inr (.inl ⟨rfl, rfl⟩), rfl⟩
  | 2, _ => ⟨layP, layP_ok, by decide, .inr (.inr ⟨rfl, rfl⟩), rfl⟩
  | n + 3, h => by omega
theorem lay_index (W : World) (k : Nat) (hk : k < 3) {cs : Array Value} (h : layVs.toArray.extract (k * 6) (k * 6 + 6) = cs) : (Instr.index 127 (.agg layVs.toArray) (.int .i64 (k : Int))).run Tryz.prog W = .ok (.agg cs) W := by
  rw [run_index_agg (m := 6) Tryz.underlying127 Tryz.underlying126 rfl (by kernel_rfl) _ _ _ (by omega) (by omega), Int.toNat_natCast, h]
/-- None of the first k forms was hit. -/
def missed (s : ByteArray) (k : Nat) : Prop := (1 ≤ k → hitB s layF = false) ∧ (2 ≤ k → hitB s layO = false) ∧ (3 ≤ k → hitB s layP = false)
theorem missed_next {s : ByteArray} {k : Nat} {L : Lay} (hm : missed s k) (hL : (k = 0 ∧ L = layF) ∨ (k = 1 ∧ L = layO) ∨ (k = 2 ∧ L = layP)) (h : hitB s L = false) : missed s (k + 1) := by
  obtain ⟨h1, h2, h3⟩ := hm
  rcases hL with ⟨rfl, rfl⟩ | ⟨rfl, rfl⟩ | ⟨rfl, rfl⟩
  · exact ⟨fun _ => h, fun h' => by omega, fun h' => by omega⟩
  · exact ⟨fun _ => h1 (by omega), fun _ => h, fun h' => by omega⟩
  · exact ⟨fun _ => h1 (by omega), fun _ => h2 (by omega), fun _ => h⟩
theorem eq_str (s : ByteArray) (l : List UInt8) : (s.toList == (mkS l).toList) = (s.data.toList == l) := by rw [Lib.toList_data, Lib.toList_data, mkS_list]

set_option maxHeartbeats 4000000 in
set_option maxRecDepth 100000 in
theorem dParse_any (s : ByteArray) (hs : s.size ≤ 10000) (w : World) (HT : DatTabs w) :
    Calls Tryz.prog 85 #[.string s] w fun e w' => e = .returned (.tuple #[.int .i64 (parT s).1, .int .i64 (parT s).2]) ∧ Below w.heap.size w w' := by
  obtain ⟨ty, fr, hblk⟩ := var_block (g := 1) (by kernel_rfl) HT.lays
  have hla := lay_at
  have hli := fun W k hk cs => @lay_index W k hk cs
  have hsz : layVs.toArray.size = 18 := rfl
  have hms : (Tryz.prog.info? 127).map (·.size) = some layVs.toArray.size := by rw [hsz]; kernel_rfl
  generalize layVs.toArray = LA at *
  have HM := Lib.hid hms
  have HB := Lib.hid hblk
  have HLA := Lib.hid hla
  have HLI := Lib.hid hli
  have HT := Lib.hid HT
  obtain ⟨R, hR⟩ : ∃ R, R = parT s := ⟨_, rfl⟩
  rw [← hR]
  have HR := Lib.hid hR
  have HM0 : Hid (missed s 0) := ⟨fun h => by omega, fun h => by omega, fun h => by omega⟩
  clear hms hblk hla hli hsz hR
  go_enter Tryz.func85, Tryz.ntmps85
  go_wp2_with (refine wpList_load_row rfl _ _ rfl 1 rfl ty LA fr _ HB.out Tryz.underlying127 rfl HM.out ?_)
  go_loopw [9] (fun i wr => ∃ k : Nat, k ≤ 3 ∧ i = .int .i64 (k : Int) ∧ Hid (missed s k) ∧ Below w.heap.size w wr) (fun i _ => 3 - (intOf i).toNat)
  case atStart => exact ⟨0, Nat.zero_le _, rfl, HM0, Below.refl _ _⟩
  case round =>
    obtain ⟨k, hk, rfl, hf, hbel⟩ := hrel
    by_cases hlt : k < 3
    · obtain ⟨L, hok, hz1, hLk, hcut⟩ := HLA.out k hlt
      have hik := fun W => HLI.out W k hlt _ hcut
      have cr := fun W hW => dRead_any s L hok hs W hW
      unfold Lay.val at cr
      have hbd := rd1_bd s L
      have HN : Hid (hitB s L = false → missed s (k + 1)) := fun h => missed_next hf.out hLk h
      have HH : Hid (hitB s L = true → R = (rd1 s L, 0)) := fun h => HR.out.trans (hit_par hz1 h)
      have hhit : hitB s L = (rd2 s L && (s.data.toList == fmtI (rd1 s L) || (s.data.toList == oldI (rd1 s L) || s.data.toList == plnI (rd1 s L)))) := rfl
      obtain ⟨z, d, m, y, n, c⟩ := L
      simp only [] at *
      generalize hitB s ⟨z, d, m, y, n, c⟩ = B at *
      generalize rd1 s ⟨z, d, m, y, n, c⟩ = T at *
      generalize rd2 s ⟨z, d, m, y, n, c⟩ = O at *
      have q1 := eq_str s (fmtI T)
      have q2 := eq_str s (oldI T)
      have q3 := eq_str s (plnI T)
      rw [← q1, ← q2, ← q3] at hhit
      have c1 := fun W hW => format_any T (by omega) W hW
      have c2 := fun W hW => old_any T (by omega) W hW
      have c3 := fun W hW => plain7_any T (by omega) W hW
      clear q1 q2 q3
      generalize mkS (fmtI T) = F at *
      generalize mkS (oldI T) = G at *
      generalize mkS (plnI T) = P at *
      have C := Lib.hid cr
      have C1 := Lib.hid c1
      have C2 := Lib.hid c2
      have C3 := Lib.hid c3
      have hbx := hbel.alloc hbel.size (.cells #[.int .i64 z, .int .i64 d, .int .i64 m, .int .i64 y, .int .i64 n, .int .i64 c] 126)
      have HBX := Lib.hid hbx
      clear cr c1 c2 c3 hbx hok hz1 hLk hcut hf
      cases O with
      | false =>
        have HNN := Lib.hid (HN.out (by rw [hhit]; simp []))
        clear hhit HN HH
        go_wp2_with fail
        refine (C.out _ (HT.out.kept HBX.out)).mono ?_
        rintro e w1 ⟨rfl, hb1⟩
        have hb := below_then HBX.out hb1
        clear hb1
        go_wp2_with fail
        go_roundw
        case rel => exact ⟨k + 1, by omega, by go_num, HNN, hb⟩
        case measure => simp [intOf]; omega
      | true =>
        rcases Bool.eq_false_or_eq_true (s.toList == F.toList) with e1 | e1
        · have HRR := Lib.hid (HH.out (by rw [hhit]; simp [e1]))
          clear hhit HN HH
          go_wp2_with fail
          refine (C.out _ (HT.out.kept HBX.out)).mono ?_
          rintro e w1 ⟨rfl, hb1⟩
          have hb := below_then HBX.out hb1
          clear hb1
          go_wp2_with fail
          refine (C1.out _ (HT.out.kept hb)).mono ?_
          rintro e w2 ⟨rfl, hb2⟩
          have hb := below_then hb hb2
          clear hb2
          go_wp2_with fail
          go_ret2
          exact ⟨by rw [HRR.out]; rfl, hb⟩
        rcases Bool.eq_false_or_eq_true (s.toList == G.toList) with e2 | e2
        · have HRR := Lib.hid (HH.out (by rw [hhit]; simp [e1, e2]))
          clear hhit HN HH
          go_wp2_with fail
          refine (C.out _ (HT.out.kept HBX.out)).mono ?_
          rintro e w1 ⟨rfl, hb1⟩
          have hb := below_then HBX.out hb1
          clear hb1
          go_wp2_with fail
          refine (C1.out _ (HT.out.kept hb)).mono ?_
          rintro e w2 ⟨rfl, hb2⟩
          have hb := below_then hb hb2
          clear hb2
          go_wp2_with fail
          refine (C2.out _ (HT.out.kept hb)).mono ?_
          rintro e w2 ⟨rfl, hb2⟩
          have hb := below_then hb hb2
          clear hb2
          go_wp2_with fail
          go_ret2
          exact ⟨by rw [HRR.out]; rfl, hb⟩
        rcases Bool.eq_false_or_eq_true (s.toList == P.toList) with e3 | e3
        · have HRR := Lib.hid (HH.out (by rw [hhit]; simp [e1, e2, e3]))
          clear hhit HN HH
          go_wp2_with fail
          refine (C.out _ (HT.out.kept HBX.out)).mono ?_
          rintro e w1 ⟨rfl, hb1⟩
          have hb := below_then HBX.out hb1
          clear hb1
          go_wp2_with fail
          refine (C1.out _ (HT.out.kept hb)).mono ?_
          rintro e w2 ⟨rfl, hb2⟩
          have hb := below_then hb hb2
          clear hb2
          go_wp2_with fail
          refine (C2.out _ (HT.out.kept hb)).mono ?_
          rintro e w2 ⟨rfl, hb2⟩
          have hb := below_then hb hb2
          clear hb2
          go_wp2_with fail
          refine (C3.out _ (HT.out.kept hb)).mono ?_
          rintro e w2 ⟨rfl, hb2⟩
          have hb := below_then hb hb2
          clear hb2
          go_wp2_with fail
          go_ret2
          exact ⟨by rw [HRR.out]; rfl, hb⟩
        have HNN := Lib.hid (HN.out (by rw [hhit]; simp [e1, e2, e3]))
        clear hhit HN HH
        go_wp2_with fail
        refine (C.out _ (HT.out.kept HBX.out)).mono ?_
        rintro e w1 ⟨rfl, hb1⟩
        have hb := below_then HBX.out hb1
        clear hb1
        go_wp2_with fail
        refine (C1.out _ (HT.out.kept hb)).mono ?_
        rintro e w2 ⟨rfl, hb2⟩
        have hb := below_then hb hb2
        clear hb2
        go_wp2_with fail
        refine (C2.out _ (HT.out.kept hb)).mono ?_
        rintro e w2 ⟨rfl, hb2⟩
        have hb := below_then hb hb2
        clear hb2
        go_wp2_with fail
        refine (C3.out _ (HT.out.kept hb)).mono ?_
        rintro e w2 ⟨rfl, hb2⟩
        have hb := below_then hb hb2
        clear hb2
        go_wp2_with fail
        go_roundw
        case rel => exact ⟨k + 1, by omega, by go_num, HNN, hb⟩
        case measure => simp [intOf]; omega
    · have HF : Hid (R = (0, 24)) := by
        obtain ⟨h1, h2, h3⟩ := hf.out
        exact HR.out.trans (hit_no (h1 (by omega)) (h2 (by omega)) (h3 (by omega)))
      clear hf
      go_wp2_with fail
      go_ret2
      exact ⟨by rw [HF.out]; rfl, hbel⟩

end Go.Proofs.YtjkfdjolhmgemaaGreatDoor
end
