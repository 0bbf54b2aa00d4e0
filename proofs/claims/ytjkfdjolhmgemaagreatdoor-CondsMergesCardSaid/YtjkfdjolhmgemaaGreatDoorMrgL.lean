/-
  Texts that the laws of this seat lean on, one behind the other.
-/
import Derived.Test.YtjkfdjolhmgemaaGreatDoorRows
import Derived.Test.YtjkfdjolhmgemaaGreatDoorMrgA
import Derived.Test.YtjkfdjolhmgemaaGreatDoorMrgB
import Derived.WalkKit
import Derived.Lib.Hide
import Derived.Lib.OthersKept
set_option linter.unusedSimpArgs false
set_option linter.unusedVariables false
/-
  Contracts of the small functions of package decimal: least, span, digit, Add, Less; and of the reference's held, Add, Less.
-/
section
namespace Go.Proofs.YtjkfdjolhmgemaaGreatDoor
open Go.RowKit

def minI (a b : Int) : Int := if b < a then b else a

theorem least_any (a c : Int) (b : Nat) (w : World) (hc : w.cell? ⟨b, 0, none⟩ = some (.int .i64 c)) :
    Calls Tryz.prog 186 #[.int .i64 a, .slice (some ⟨b, 0, none⟩) 1 1] w fun e w' => e = .returned (.int .i64 (minI a c)) ∧ w = w' := by
  obtain ⟨m, hm⟩ : ∃ m, minI a c = m := ⟨_, rfl⟩
  rw [hm]
  have hm' := hm
  unfold minI at hm'
  have HM := Lib.hid hm'
  clear hm hm'
  go_enter Tryz.func186, Tryz.ntmps186
  go_wp2
  go_loop [0, 9] (fun x i => (i = .int .i64 0 ∧ x = .int .i64 a) ∨ (i = .int .i64 1 ∧ x = .int .i64 m)) (fun _ i => 1 - (intOf i).toNat)
  case atStart => exact .inl ⟨rfl, rfl⟩
  case round =>
    rcases hrel with ⟨rfl, rfl⟩ | ⟨rfl, rfl⟩
    · by_cases h : c < a
      · have hmc : m = c := by have := HM.out; rw [if_pos h] at this; exact this.symm
        subst hmc
        go_wp2
        go_round
        case rel => exact .inr ⟨rfl, rfl⟩
        case measure => simp [intOf]
      · have hmc : m = a := by have := HM.out; rw [if_neg h] at this; exact this.symm
        subst hmc
        go_wp2
        go_round
        case rel => exact .inr ⟨rfl, rfl⟩
        case measure => simp [intOf]
    · go_wp2
      go_ret
      exact ⟨rfl, rfl⟩

/-- What digit answers of a character: its worth, if it is a digit to the base. -/
def digN (b r : Int) : Int := if isD b r then digV r else 0

theorem ret_dig {a b : Int} {c d : Bool} (h : a = b) (k : c = d) : Ending.returned (.tuple #[.int .i64 a, .bool c]) = .returned (.tuple #[.int .i64 b, .bool d]) := by rw [h, k]

theorem digitD_any (r b : Int) (h0 : 0 ≤ r) (h1 : r ≤ 2147483647) (hb0 : 10 ≤ b) (hb1 : b ≤ 16) (w : World) :
    Calls Tryz.prog 185 #[.int .i32 r, .int .i64 b] w fun e w' => e = .returned (.tuple #[.int .i64 (digN b r), .bool (isD b r)]) ∧ w = w' := by
  obtain ⟨v, hv⟩ : ∃ v, digN b r = v := ⟨_, rfl⟩
  obtain ⟨o, ho⟩ : ∃ o, isD b r = o := ⟨_, rfl⟩
  rw [hv, ho]
  unfold digN at hv
  rw [ho] at hv
  unfold isD digV at ho
  unfold digV at hv
  have HV := Lib.hid hv
  have HO := Lib.hid ho
  clear hv ho
  by_cases k1 : rng 48 57 r = true
  · have E : Hid (o = true ∧ v = r - 48) := by
      have a := HV.out; have c := HO.out
      have k := rng_true.1 k1
      rw [if_pos k1] at a c
      subst c
      rw [decide_eq_true (by omega), if_pos rfl] at a
      exact ⟨decide_eq_true (by omega), a.symm⟩
    clear HV HO
    obtain ⟨c1, c2⟩ := rng_true.1 k1
    clear k1
    go_enter Tryz.func185, Tryz.ntmps185
    go_wp2
    go_ret2
    exact ⟨ret_dig E.out.2.symm E.out.1.symm, rfl⟩
  · have k1' : rng 48 57 r = false := by simpa using k1
    have n1 := rng_false.1 k1'
    by_cases k2 : rng 97 102 r = true
    · obtain ⟨c1, c2⟩ := rng_true.1 k2
      have c3 : ¬ r ≤ 57 := by omega
      by_cases hd : b ≤ r - 97 + 10
      · have E : Hid (o = false ∧ v = 0) := by
          have a := HV.out; have c := HO.out
          rw [if_neg k1, if_pos k2] at a c
          subst c
          rw [decide_eq_false (by omega), if_neg (by simp)] at a
          exact ⟨decide_eq_false (by omega), a.symm⟩
        clear HV HO k1 k1' n1 k2
        go_enter Tryz.func185, Tryz.ntmps185
        go_wp2
        go_ret2
        exact ⟨ret_dig E.out.2.symm E.out.1.symm, rfl⟩
      · have E : Hid (o = true ∧ v = r - 97 + 10) := by
          have a := HV.out; have c := HO.out
          rw [if_neg k1, if_pos k2] at a c
          subst c
          rw [decide_eq_true (by omega), if_pos rfl] at a
          exact ⟨decide_eq_true (by omega), by omega⟩
        clear HV HO k1 k1' n1 k2
        go_enter Tryz.func185, Tryz.ntmps185
        go_wp2
        go_ret2
        exact ⟨ret_dig E.out.2.symm E.out.1.symm, rfl⟩
    · have k2' : rng 97 102 r = false := by simpa using k2
      have n2 := rng_false.1 k2'
      by_cases k3 : rng 65 70 r = true
      · obtain ⟨c1, c2⟩ := rng_true.1 k3
        have c3 : ¬ r ≤ 57 := by omega
        have c4 : ¬ 97 ≤ r := by omega
        by_cases hd : b ≤ r - 65 + 10
        · have E : Hid (o = false ∧ v = 0) := by
            have a := HV.out; have c := HO.out
            rw [if_neg k1, if_neg k2, if_pos k3] at a c
            subst c
            rw [decide_eq_false (by omega), if_neg (by simp)] at a
            exact ⟨decide_eq_false (by omega), a.symm⟩
          clear HV HO k1 k1' n1 k2 k2' n2 k3
          go_enter Tryz.func185, Tryz.ntmps185
          go_wp2
          go_ret2
          exact ⟨ret_dig E.out.2.symm E.out.1.symm, rfl⟩
        · have E : Hid (o = true ∧ v = r - 65 + 10) := by
            have a := HV.out; have c := HO.out
            rw [if_neg k1, if_neg k2, if_pos k3] at a c
            subst c
            rw [decide_eq_true (by omega), if_pos rfl] at a
            exact ⟨decide_eq_true (by omega), by omega⟩
          clear HV HO k1 k1' n1 k2 k2' n2 k3
          go_enter Tryz.func185, Tryz.ntmps185
          go_wp2
          go_ret2
          exact ⟨ret_dig E.out.2.symm E.out.1.symm, rfl⟩
      · have k3' : rng 65 70 r = false := by simpa using k3
        have n3 := rng_false.1 k3'
        have E : Hid (o = false ∧ v = 0) := by
          have a := HV.out; have c := HO.out
          rw [if_neg k1, if_neg k2, if_neg k3] at a c
          subst c
          rw [decide_eq_false (by omega), if_neg (by simp)] at a
          exact ⟨decide_eq_false (by omega), a.symm⟩
        clear HV HO k1 k1' k2 k2' k3 k3'
        go_enter Tryz.func185, Tryz.ntmps185
        go_wp2
        all_goals first
          | (exfalso; omega)
          | (go_ret2; exact ⟨ret_dig E.out.2.symm E.out.1.symm, rfl⟩)

end Go.Proofs.YtjkfdjolhmgemaaGreatDoor
end

/-
  Contracts of the readers of package decimal: read, number, Number, ReadHex, Seconds, for every text.
-/
section
namespace Go.Proofs.YtjkfdjolhmgemaaGreatDoor
open Go.RowKit

def readN (b cut : Int) (l : List UInt8) : Int := if allB (isD b) l then cutV b cut l else 0
def readB (b : Int) (l : List UInt8) : Bool := allB (isD b) l && !l.isEmpty

theorem read_no {b cut : Int} {l : List UInt8} (h : allB (isD b) l = false) : readN b cut l = 0 ∧ readB b l = false := by simp [readN, readB, h]
theorem read_yes {b cut : Int} {l : List UInt8} (h : allB (isD b) l = true) : readN b cut l = cutV b cut l ∧ readB b l = !l.isEmpty := by simp [readN, readB, h]

theorem iter_start (w : World) (s : ByteArray) : (w.iter s 0).heap[w.heap.size]? = some (.stringIter s 0) := World.iter_heap w s 0

theorem readTen_any (s : ByteArray) (cut : Int) (w : World)
    (hB : Hid (∀ k, k < s.size → allB (isD 10) (s.data.toList.take k) = true → 0 ≤ cutV 10 cut (s.data.toList.take k) ∧ cutV 10 cut (s.data.toList.take k) * 10 + 16 ≤ 9223372036854775807)) :
    Calls Tryz.prog 178 #[.string s, .int .i64 10, .int .i64 cut] w fun e w' => e = .returned (.tuple #[.int .i64 (readN 10 cut s.data.toList), .bool (readB 10 s.data.toList)]) ∧ Below w.heap.size w w' := by
  go_enter Tryz.func178, Tryz.ntmps178
  go_wp2
  go_loopw [8] (fun n wr => ∃ (k : Nat) (x : Int), k ≤ s.size ∧ n = .int .i64 x ∧ Hid (cutV 10 cut (s.data.toList.take k) = x) ∧ Hid (allB (isD 10) (s.data.toList.take k) = true) ∧ wr.heap[w.heap.size]? = some (.stringIter s k) ∧ Below w.heap.size w wr) (fun _ wr => s.size - wr.iterPos w.heap.size)
  case atStart => exact ⟨0, 0, Nat.zero_le _, rfl, rfl, rfl, iter_start w s, (Below.refl _ _).alloc (Nat.le_refl _) _⟩
  case round =>
    obtain ⟨k, x, hk, rfl, hx, ha, hit, hbel⟩ := hrel
    by_cases hlt : k < s.size
    · by_cases hasc : (s[k]'hlt).toNat < 128
      · have hbd := byte_wf s[k]
        obtain ⟨q0, q1⟩ := hB.out k hlt ha.out
        rw [hx.out] at q0 q1
        obtain ⟨wi, hwi⟩ : ∃ wi, wr.iterAt w.heap.size s (k + 1) = wi := ⟨_, rfl⟩
        have hnx : ∀ ty, (Instr.next (.pointer (some ⟨w.heap.size, 0, none⟩)) true ty).run Tryz.prog wr = .ok (.tuple #[.bool true, .int .i64 k, .int .i32 (s[k]'hlt).toNat]) wi := fun ty => hwi ▸ Lib.run_next_ascii_at wr w.heap.size s k ty hit hlt hasc
        have hit2 : wi.heap[w.heap.size]? = some (.stringIter s (k + 1)) := hwi ▸ Lib.iterAt_heap wr w.heap.size s k (k + 1) hit
        have hbel2 : Below w.heap.size w wi := hwi ▸ Lib.below_iterAt hbel (Nat.le_refl _) s (k + 1)
        have hbel3 : Below w.heap.size w (wi.alloc (.cells #[.int .i64 cut] 3)) := hbel2.alloc hbel2.size _
        have HP : Hid (wr.iterPos w.heap.size = k) := by show _ = _; simp only [World.iterPos, hit]
        have hit3 : (wi.alloc (.cells #[.int .i64 cut] 3)).heap[w.heap.size]? = some (.stringIter s (k + 1)) := (Lib.alloc_old wi _ _ (Array.getElem?_eq_some_iff.1 hit2).1).trans hit2
        clear hwi hit hit2 hbel
        by_cases hd : isD 10 ((s[k]'hlt).toNat : Int) = true
        · have hdn := digV_nn ((s[k]'hlt).toNat : Int)
          have hd2 := isD_true.1 hd
          have HV : Hid (digN 10 ((s[k]'hlt).toNat : Int) = digV ((s[k]'hlt).toNat : Int)) := by show _ = _; unfold digN; rw [if_pos hd]
          have HX : Hid (cutV 10 cut (s.data.toList.take (k + 1)) = minI (x * 10 + digV ((s[k]'hlt).toNat : Int)) cut) := by
            show _ = _
            rw [cutV_take _ _ s k hlt, hx.out]
            unfold minI
            split <;> split <;> omega
          have HA : Hid (allB (isD 10) (s.data.toList.take (k + 1)) = true) := by show _ = _; rw [allB_take _ s k hlt, ha.out, hd]; rfl
          have HD := Lib.hid hd
          clear hd hx ha
          go_wp2_with fail
          refine (digitD_any _ 10 (by omega) (by omega) (by omega) (by omega) _).mono ?_
          rintro e w' ⟨he, rfl⟩
          rw [HV.out, HD.out] at he
          subst he
          generalize digV ((s[k]'hlt).toNat : Int) = d at *
          go_wp2_with fail
          refine (least_any _ cut wi.heap.size _ ?_).mono ?_
          · go_simp
          rintro e w' ⟨rfl, rfl⟩
          go_wp2
          go_roundw
          case rel => exact ⟨k + 1, _, by omega, rfl, HX, HA, hit3, hbel3⟩
          case measure => rw [HP.out]; simp only [World.iterPos, hit3]; omega
        · have hd' : isD 10 ((s[k]'hlt).toNat : Int) = false := by simpa using hd
          have HV : Hid (digN 10 ((s[k]'hlt).toNat : Int) = 0) := by show _ = _; unfold digN; rw [if_neg hd]
          have HA := Lib.hid (read_no (cut := cut) (allB_false _ s k hlt hd'))
          have HD := Lib.hid hd'
          clear hd hd' hx ha
          go_wp2_with fail
          refine (digitD_any _ 10 (by omega) (by omega) (by omega) (by omega) _).mono ?_
          rintro e w' ⟨he, rfl⟩
          rw [HV.out, HD.out] at he
          subst he
          go_wp2
          go_ret2
          exact ⟨ret_dig HA.out.1.symm HA.out.2.symm, hbel2⟩
      · obtain ⟨hr0, _⟩ := decode_high s k hlt (by omega)
        have hr1 := decode_le s k
        obtain ⟨wi, hwi⟩ : ∃ wi, wr.iterAt w.heap.size s (k + (Utf8.decode s k).2) = wi := ⟨_, rfl⟩
        obtain ⟨r, hr⟩ : ∃ r, ((Utf8.decode s k).1 : Int) = r := ⟨_, rfl⟩
        have hnx : ∀ ty, (Instr.next (.pointer (some ⟨w.heap.size, 0, none⟩)) true ty).run Tryz.prog wr = .ok (.tuple #[.bool true, .int .i64 k, .int .i32 r]) wi := fun ty => hr ▸ hwi ▸ Lib.run_next_any_at wr w.heap.size s k ty hit hlt
        have hbel2 : Below w.heap.size w wi := hwi ▸ Lib.below_iterAt hbel (Nat.le_refl _) s _
        have hr0' : 128 ≤ r := by omega
        have hr1' : r ≤ 2147483647 := by omega
        have hd' : isD 10 r = false := by rw [isD_false, digV_big hr0']; omega
        have HV : Hid (digN 10 r = 0) := by show _ = _; unfold digN; rw [hd']; rfl
        have HA := Lib.hid (read_no (cut := cut) (allB_false (isD 10) s k hlt (by rw [isD_false, digV_big (by omega)]; omega)))
        have HD := Lib.hid hd'
        clear hd' hx ha hr hwi hr0 hr1 hasc hit hbel
        go_wp2_with fail
        refine (digitD_any _ 10 (by omega) (by omega) (by omega) (by omega) _).mono ?_
        rintro e w' ⟨he, rfl⟩
        rw [HV.out, HD.out] at he
        subst he
        go_wp2
        go_ret2
        exact ⟨ret_dig HA.out.1.symm HA.out.2.symm, hbel2⟩
    · have hnx : ∀ ty, (Instr.next (.pointer (some ⟨w.heap.size, 0, none⟩)) true ty).run Tryz.prog wr = .ok (.tuple #[.bool false]) wr := fun ty => Lib.run_next_end_at wr w.heap.size s k ty hit hlt
      have hl : s.data.toList.take k = s.data.toList := List.take_of_length_le (by rw [← Lib.size_eq]; omega)
      rw [hl] at hx ha
      have HA := Lib.hid (read_yes (cut := cut) ha.out)
      clear hl ha
      go_wp2
      go_ret2
      exact ⟨ret_dig (by rw [HA.out.1, hx.out]) (by rw [HA.out.2, Lib.toList_data]), hbel⟩

end Go.Proofs.YtjkfdjolhmgemaaGreatDoor
end

/-
  Contracts of number, Number, ReadHex and Seconds of package decimal, for every text.
-/
section
namespace Go.Proofs.YtjkfdjolhmgemaaGreatDoor
open Go.RowKit


theorem num10_fit (s : ByteArray) (h : s.size ≤ 18) : Hid (∀ k, k < s.size → allB (isD 10) (s.data.toList.take k) = true → 0 ≤ cutV 10 9223372036854775807 (s.data.toList.take k) ∧ cutV 10 9223372036854775807 (s.data.toList.take k) * 10 + 16 ≤ 9223372036854775807) := by
  intro k hk ha
  have hl : (s.data.toList.take k).length = k := by rw [List.length_take, ← Lib.size_eq]; omega
  have hp : 10 ^ k ≤ 10 ^ 17 := Nat.pow_le_pow_right (by omega) (by omega)
  have hq : 10 ^ 17 = 100000000000000000 := by decide +kernel
  have h1 : valV 10 (s.data.toList.take k) < ((10 ^ (s.data.toList.take k).length : Nat) : Int) := valV_lt 10 _ (by omega) ha
  rw [hl] at h1
  have h2 : cutV 10 9223372036854775807 (s.data.toList.take k) = valV 10 (s.data.toList.take k) := cutV_val 10 9223372036854775807 _ (by omega) ha (by rw [hl]; omega)
  have h3 := valV_nn (b := 10) (by omega) (s.data.toList.take k)
  have h4 : valV 10 (s.data.toList.take k) < 100000000000000000 := by
    rw [hq] at hp
    generalize 10 ^ k = p at *
    omega
  rw [h2]
  omega

theorem num10_all (s : ByteArray) (h : s.size ≤ 18) (ha : allB (isD 10) s.data.toList = true) : cutV 10 9223372036854775807 s.data.toList = valV 10 s.data.toList := by
  have hp : 10 ^ s.data.toList.length ≤ 10 ^ 18 := Nat.pow_le_pow_right (by omega) (by rw [← Lib.size_eq]; omega)
  have hq : 10 ^ 18 ≤ 9223372036854775807 := by decide +kernel
  exact cutV_val 10 9223372036854775807 _ (by omega) ha (by omega)

theorem num10_any (s : ByteArray) (most : Int) (w : World) :
    Calls Tryz.prog 167 #[.string s, .int .i64 10, .int .i64 18, .int .i64 most] w fun e w' => e = .returned (.tuple #[.int .i64 (numN 10 18 most s.data.toList), .int .i64 (numE 10 18 most s.data.toList)]) ∧ Below w.heap.size w w' := by
  have hsz := Lib.size_eq s
  obtain ⟨v, hv⟩ : ∃ v, numN 10 18 most s.data.toList = v := ⟨_, rfl⟩
  obtain ⟨o, ho⟩ : ∃ o, numE 10 18 most s.data.toList = o := ⟨_, rfl⟩
  rw [hv, ho]
  unfold numN at hv
  unfold numE at ho
  by_cases hl : s.size ≤ 18
  · by_cases ha : allB (isD 10) s.data.toList = true
    · have hc := num10_all s hl ha
      obtain ⟨r1, r2⟩ := read_yes (cut := 9223372036854775807) ha
      rw [hc] at r1
      by_cases h0 : s.size = 0
      · rw [if_pos (.inl (by omega))] at hv ho
        have E : Hid (v = 0 ∧ o = 5) := ⟨hv.symm, ho.symm⟩
        have e0 : s.data.toList.isEmpty = true := by rw [List.isEmpty_iff_length_eq_zero]; omega
        rw [e0] at r2
        have R := Lib.hid (And.intro r1 r2)
        have hll : (s.size : Int) ≤ 18 := by omega
        clear hv ho hsz hc r1 r2 e0 h0
        go_enter Tryz.func167, Tryz.ntmps167
        go_wp2_with fail
        refine (readTen_any s 9223372036854775807 _ (num10_fit s hl)).mono ?_
        rintro e w1 ⟨he, hb⟩
        rw [R.out.2] at he
        subst he
        go_wp2
        go_ret2
        exact ⟨ret_int_int E.out.1.symm E.out.2.symm, hb⟩
      · have e0 : s.data.toList.isEmpty = false := by
          cases hh : s.data.toList with
          | nil => rw [hh] at hsz; exact absurd hsz h0
          | cons x r => rfl
        rw [e0] at r2
        have R := Lib.hid (And.intro r1 r2)
        have hll : (s.size : Int) ≤ 18 := by omega
        by_cases hm : most < valV 10 s.data.toList
        · have E : Hid (v = 0 ∧ o = 3) := by
            rw [if_pos (.inr (.inr (.inr hm)))] at hv
            rw [if_neg (by rw [ha]; rintro (h | h | h) <;> first | omega | cases h), if_pos hm] at ho
            exact ⟨hv.symm, ho.symm⟩
          generalize valV 10 s.data.toList = n at *
          clear hv ho hsz hc r1 r2 e0 h0 ha
          go_enter Tryz.func167, Tryz.ntmps167
          go_wp2_with fail
          refine (readTen_any s 9223372036854775807 _ (num10_fit s hl)).mono ?_
          rintro e w1 ⟨he, hb⟩
          rw [R.out.1, R.out.2] at he
          subst he
          go_wp2
          go_ret2
          exact ⟨ret_int_int E.out.1.symm E.out.2.symm, hb⟩
        · have E : Hid (v = valV 10 s.data.toList ∧ o = 0) := by
            rw [if_neg (by rw [ha]; rintro (h | h | h | h) <;> first | omega | cases h)] at hv
            rw [if_neg (by rw [ha]; rintro (h | h | h) <;> first | omega | cases h), if_neg hm] at ho
            exact ⟨hv.symm, ho.symm⟩
          generalize valV 10 s.data.toList = n at *
          clear hv ho hsz hc r1 r2 e0 h0 ha
          go_enter Tryz.func167, Tryz.ntmps167
          go_wp2_with fail
          refine (readTen_any s 9223372036854775807 _ (num10_fit s hl)).mono ?_
          rintro e w1 ⟨he, hb⟩
          rw [R.out.1, R.out.2] at he
          subst he
          go_wp2
          go_ret2
          exact ⟨ret_int_int E.out.1.symm E.out.2.symm, hb⟩
    · have ha' : allB (isD 10) s.data.toList = false := by simpa using ha
      have R := Lib.hid (read_no (cut := 9223372036854775807) ha')
      rw [if_pos (.inr (.inr (.inl ha')))] at hv
      rw [if_pos (.inr (.inr ha'))] at ho
      have E : Hid (v = 0 ∧ o = 5) := ⟨hv.symm, ho.symm⟩
      have hll : (s.size : Int) ≤ 18 := by omega
      clear hv ho hsz ha ha'
      go_enter Tryz.func167, Tryz.ntmps167
      go_wp2_with fail
      refine (readTen_any s 9223372036854775807 _ (num10_fit s hl)).mono ?_
      rintro e w1 ⟨he, hb⟩
      rw [R.out.1, R.out.2] at he
      subst he
      go_wp2
      go_ret2
      exact ⟨ret_int_int E.out.1.symm E.out.2.symm, hb⟩
  · rw [if_pos (.inr (.inl (by omega)))] at hv ho
    have E : Hid (v = 0 ∧ o = 5) := ⟨hv.symm, ho.symm⟩
    have hll : (18 : Int) < (s.size : Int) := by omega
    clear hv ho hsz hl
    go_enter Tryz.func167, Tryz.ntmps167
    go_wp2_with fail
    go_ret2
    exact ⟨ret_int_int E.out.1.symm E.out.2.symm, Below.refl _ _⟩

theorem Number_any (s : ByteArray) (most : Int) (w : World) :
    Calls Tryz.prog 151 #[.string s, .int .i64 most] w fun e w' => e = .returned (.tuple #[.int .i64 (numN 10 18 most s.data.toList), .int .i64 (numE 10 18 most s.data.toList)]) ∧ Below w.heap.size w w' := by
  go_enter Tryz.func151, Tryz.ntmps151
  go_wp2_with fail
  refine (num10_any s most _).mono ?_
  rintro e w1 ⟨rfl, hb⟩
  go_wp2_with fail
  go_ret2
  exact ⟨rfl, hb⟩

end Go.Proofs.YtjkfdjolhmgemaaGreatDoor
end
