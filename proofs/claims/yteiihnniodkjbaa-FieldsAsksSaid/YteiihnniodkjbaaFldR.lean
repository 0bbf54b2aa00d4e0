/-
  Contracts of the reference's Few, Line, Parse, All, Get, Has (layer 9).
-/
import Derived.Test.YteiihnniodkjbaaFldF
import Derived.Test.YteiihnniodkjbaaOctRt
import Derived.Test.YteiihnniodkjbaaOctRl
import Derived.Test.YteiihnniodkjbaaItmS
namespace Go.Proofs.Yteiihnniodkjbaa
open Go.RowKit

def okF (b : Nat) (x : Fd) : Bool := decide (x.1.size ≤ b) && decide (x.2.size ≤ b)
def fewB (L : List Fd) (m b : Nat) : Bool := (L.take (m + 1)).all (okF b) && decide (L.length ≤ m)
theorem few_bad {L : List Fd} {m b k : Nat} (hk : k < L.length) (hm : k ≤ m) (h : okF b L[k] = false) : fewB L m b = false := by
  unfold fewB
  have : (L.take (m + 1)).all (okF b) = false := by
    rw [List.all_eq_false]
    exact ⟨L[k], List.mem_take_iff_getElem.2 ⟨k, by omega, rfl⟩, by simp [h]⟩
  rw [this]; rfl
theorem few_all {L : List Fd} {m b k : Nat} (hk : L.length ≤ k) (h : (L.take k).all (okF b) = true) : fewB L m b = decide (L.length ≤ m) := by
  unfold fewB
  rw [List.take_of_length_le hk] at h
  have : (L.take (m + 1)).all (okF b) = true := by
    rw [List.all_eq_true] at h ⊢
    exact fun x hx => h x (List.mem_of_mem_take hx)
  rw [this, Bool.true_and]
theorem few_many {L : List Fd} {m b : Nat} (h : m < L.length) : fewB L m b = false := by
  unfold fewB
  rw [decide_eq_false (by omega), Bool.and_false]
/-- What the law's guard leaves. -/
theorem few_yes {L : List Fd} {m b : Nat} (h : fewB L m b = true) : L.length ≤ m ∧ ∀ x ∈ L, x.1.size ≤ b ∧ x.2.size ≤ b := by
  unfold fewB at h
  rw [Bool.and_eq_true, decide_eq_true_eq, List.all_eq_true] at h
  refine ⟨h.2, fun x hx => ?_⟩
  have := h.1 x (by rw [List.take_of_length_le (by omega)]; exact hx)
  simpa [okF] using this

theorem rf_few (A : Option Addr) (n c m b : Nat) (L : List Fd) (w : World) (h : SlF w A n c L) (hm : m ≤ 1000) :
    Calls Try.prog 8 #[.slice A n c, .int .i64 m, .int .i64 b] w fun e w' => e = .returned (.bool (fewB L m b)) ∧ w = w' := by
  have hlen := h.len
  subst hlen
  go_enter Try.func8, Try.ntmps8
  go_wp2_with fail
  go_loop [7] (fun i => ∃ k : Nat, k ≤ L.length ∧ k ≤ m + 1 ∧ i = .int .i64 k ∧ Hid ((L.take k).all (okF b) = true)) (fun i => L.length - (intOf i).toNat)
  case atStart => exact ⟨0, Nat.zero_le _, Nat.zero_le _, rfl, rfl⟩
  case round =>
    obtain ⟨k, hk, hkm, rfl, hf⟩ := hrel
    by_cases hlt : k < L.length
    · by_cases hle : k ≤ m
      · obtain ⟨ad, rfl, hc⟩ := h.at_ (by omega)
        obtain ⟨hc0, hc1⟩ := hc k L[k] (List.getElem?_eq_getElem hlt)
        have hcell1 := fd_snd hc1
        have HN : Hid (okF b L[k] = false → fewB L m b = false) := fun hh => few_bad hlt hle hh
        have HY : Hid (okF b L[k] = true → (L.take (k + 1)).all (okF b) = true) := fun hh => by
          rw [take_fd L k hlt, List.all_append, hf.out]; simp [hh]
        generalize L[k] = x at *
        obtain ⟨f, v⟩ := x
        have hi0 : (0 : Int) ≤ (k : Int) := by omega
        have hi1 : (k : Int) < (L.length : Int) := by omega
        have hi2 : (k : Int) ≤ (m : Int) := by omega
        clear hc hf
        by_cases h1 : (b : Int) < (f.size : Int)
        · have HR := Lib.hid (HN.out (by simp [okF]; omega))
          clear HN HY
          go_wp2_with fail
          go_ret
          exact ⟨by rw [HR.out]; rfl, rfl⟩
        · by_cases h2 : (b : Int) < (v.size : Int)
          · have HR := Lib.hid (HN.out (by simp [okF]; omega))
            clear HN HY
            go_wp2_with fail
            go_ret
            exact ⟨by rw [HR.out]; rfl, rfl⟩
          · have HR := Lib.hid (HY.out (by simp [okF]; omega))
            clear HN HY
            go_wp2_with fail
            go_round
            case rel => exact ⟨k + 1, by omega, by omega, by go_num, HR⟩
            case measure => simp [intOf]; omega
      · have hi1 : (k : Int) < (L.length : Int) := by omega
        have hi2 : ¬ (k : Int) ≤ (m : Int) := by omega
        have hi3 : ¬ (L.length : Int) ≤ (m : Int) := by omega
        have HR := Lib.hid (few_many (L := L) (m := m) (b := b) (by omega))
        clear hf
        go_wp2_with fail
        go_ret
        exact ⟨by rw [HR.out]; rfl, rfl⟩
    · have hi1 : ¬ (k : Int) < (L.length : Int) := by omega
      have HR := Lib.hid (few_all (L := L) (m := m) (b := b) (k := k) (by omega) hf.out)
      clear hf
      by_cases h3 : (L.length : Int) ≤ (m : Int)
      · have e : decide (L.length ≤ m) = true := decide_eq_true (by omega)
        rw [e] at HR
        clear e
        go_wp2_with fail
        go_ret
        exact ⟨by rw [HR.out]; rfl, rfl⟩
      · have e : decide (L.length ≤ m) = false := decide_eq_false (by omega)
        rw [e] at HR
        clear e
        go_wp2_with fail
        go_ret
        exact ⟨by rw [HR.out]; rfl, rfl⟩

theorem rf_line (x : Fd) (hz : x.1.size + 2 + x.2.size ≤ 9223372036854775807) (w : World) :
    Calls Try.prog 13 #[fdV x] w fun e w' => e = .returned (.string (lineS x)) ∧ Below w.heap.size w w' := by
  obtain ⟨a, b⟩ := x
  have hD : lineS (a, b) = a ++ (⟨#[58, 32]⟩ : ByteArray) ++ b := rfl
  rw [hD]
  unfold fdV
  have hy : a.size + 2 + b.size ≤ 9223372036854775807 := hz
  clear hz
  have zz : (a ++ (⟨#[58, 32]⟩ : ByteArray)).size = a.size + 2 := by rw [ByteArray.size_append]; rfl
  have k1 : ¬ 9223372036854775807 < a.size + 2 := by omega
  have k2 : ¬ 9223372036854775807 < a.size + 2 + b.size := by omega
  go_enter Try.func13, Try.ntmps13
  go_wp2_with fail
  go_ret
  exact ⟨rfl, (Below.refl _ _).alloc (Nat.le_refl _) _⟩

set_option maxHeartbeats 4000000 in
set_option maxRecDepth 100000 in
theorem rf_parse (s : ByteArray) (w : World) (hs : s.size ≤ maxLen) :
    Calls Try.prog 11 #[.string s] w fun e w' => e = .returned (.tuple #[fdV (flF s), .int .i64 (flX s)]) ∧ Below w.heap.size w w' := by
  have hz0 : (w.alloc (.cells #[.string ⟨#[]⟩, .string ⟨#[]⟩] 26)).heap[w.heap.size]? = some (.cells #[.string ⟨#[]⟩, .string ⟨#[]⟩] 26 (0, 0)) := heap_alloc_new w _
  have hb0 : Below w.heap.size w (w.alloc (.cells #[.string ⟨#[]⟩, .string ⟨#[]⟩] 26)) := (Below.refl _ _).alloc (Nat.le_refl _) _
  have HZ := Lib.hid hz0
  have HB := Lib.hid hb0
  by_cases hl : 8192 < s.size
  · have HR := Lib.hid (fl_long hl)
    have hl' : (8192 : Int) < (s.size : Int) := by omega
    clear hz0 hb0 hl
    go_enter Try.func11, Try.ntmps11
    go_wp2_with fail
    refine bodyPost_ret (results_cell_row_tmp rfl _ _ w.heap.size 26 #[.string ⟨#[]⟩, .string ⟨#[]⟩] (0, 0) _ rfl HZ.out Try.underlying26 rfl (by kernel_rfl)) rfl ?_
    exact ⟨by rw [HR.out.1, HR.out.2]; rfl, HB.out⟩
  · have hl' : ¬ (8192 : Int) < (s.size : Int) := by omega
    have cc := fun W => r_cut s 58 W hs (by decide) (by decide)
    have hZs : (cutZ s 58).size ≤ maxLen := Nat.le_trans (flZ_le s 58) hs
    have ct := fun W => r_trim (cutZ s 58) W hZs
    have ck := fun W => r_isToken (flT s).1 W (Nat.le_trans (flT_le s).1 hs)
    have cx := fun W => r_isText (flT s).2 W (Nat.le_trans (flT_le s).2 hs)
    have hno := fun h => fl_no (s := s) hl h
    have hye := fun h => fl_yes (s := s) hl h
    have hT : flT s = (cutA s 58, mkS (trimL (cutZ s 58).data.toList)) := rfl
    have hO : flO s = (cutOk s 58 && ((!(flT s).1.toList.isEmpty && allB tokB (flT s).1.data.toList) && allB txtB (flT s).2.data.toList)) := rfl
    rw [hT] at ck cx hye hO
    generalize cutA s 58 = a at *
    generalize mkS (trimL (cutZ s 58).data.toList) = b at *
    generalize cutZ s 58 = z at *
    generalize cutOk s 58 = ok at *
    simp only at ck cx hO
    generalize (!a.toList.isEmpty && allB tokB a.data.toList) = tk at *
    generalize allB txtB b.data.toList = tx at *
    have CC := Lib.hid cc
    have CT := Lib.hid ct
    have CK := Lib.hid ck
    have CX := Lib.hid cx
    clear cc ct ck cx hT hZs hl hz0 hb0
    cases ok
    · have HR := Lib.hid (hno (by rw [hO]; rfl))
      clear hno hye hO
      go_enter Try.func11, Try.ntmps11
      go_wp2_with fail
      refine (CC.out _).mono ?_
      rintro e w1 ⟨rfl, hb1⟩
      have HZ1 := Lib.hid (zero_still hb1 HZ.out)
      have HB1 := Lib.hid (below_then HB.out hb1)
      obtain ⟨z0, z1, y0, y1⟩ := fd_cells HZ1.out
      clear hb1
      go_wp2_with fail
      refine (CT.out _).mono ?_
      rintro e w2 ⟨rfl, rfl⟩
      go_wp2_with fail
      refine bodyPost_ret (results_cell_row_tmp rfl _ _ w.heap.size 26 #[.string ⟨#[]⟩, .string ⟨#[]⟩] (0, 0) _ rfl (fd_set HZ1.out) Try.underlying26 rfl (by kernel_rfl)) rfl ?_
      exact ⟨by rw [HR.out.1, HR.out.2]; rfl, below_set2 HB1.out (Nat.le_refl _)⟩
    · cases tk
      · have HR := Lib.hid (hno (by rw [hO]; rfl))
        clear hno hye hO
        go_enter Try.func11, Try.ntmps11
        go_wp2_with fail
        refine (CC.out _).mono ?_
        rintro e w1 ⟨rfl, hb1⟩
        have HZ1 := Lib.hid (zero_still hb1 HZ.out)
        have HB1 := Lib.hid (below_then HB.out hb1)
        obtain ⟨z0, z1, y0, y1⟩ := fd_cells HZ1.out
        clear hb1
        go_wp2_with fail
        refine (CT.out _).mono ?_
        rintro e w2 ⟨rfl, rfl⟩
        go_wp2_with fail
        refine (CK.out _).mono ?_
        rintro e w2 ⟨rfl, rfl⟩
        go_wp2_with fail
        refine bodyPost_ret (results_cell_row_tmp rfl _ _ w.heap.size 26 #[.string ⟨#[]⟩, .string ⟨#[]⟩] (0, 0) _ rfl (fd_set HZ1.out) Try.underlying26 rfl (by kernel_rfl)) rfl ?_
        exact ⟨by rw [HR.out.1, HR.out.2]; rfl, below_set2 HB1.out (Nat.le_refl _)⟩
      · cases tx
        · have HR := Lib.hid (hno (by rw [hO]; rfl))
          clear hno hye hO
          go_enter Try.func11, Try.ntmps11
          go_wp2_with fail
          refine (CC.out _).mono ?_
          rintro e w1 ⟨rfl, hb1⟩
          have HZ1 := Lib.hid (zero_still hb1 HZ.out)
          have HB1 := Lib.hid (below_then HB.out hb1)
          obtain ⟨z0, z1, y0, y1⟩ := fd_cells HZ1.out
          clear hb1
          go_wp2_with fail
          refine (CT.out _).mono ?_
          rintro e w2 ⟨rfl, rfl⟩
          go_wp2_with fail
          refine (CK.out _).mono ?_
          rintro e w2 ⟨rfl, rfl⟩
          go_wp2_with fail
          refine (CX.out _).mono ?_
          rintro e w2 ⟨rfl, rfl⟩
          go_wp2_with fail
          refine bodyPost_ret (results_cell_row_tmp rfl _ _ w.heap.size 26 #[.string ⟨#[]⟩, .string ⟨#[]⟩] (0, 0) _ rfl (fd_set HZ1.out) Try.underlying26 rfl (by kernel_rfl)) rfl ?_
          exact ⟨by rw [HR.out.1, HR.out.2]; rfl, below_set2 HB1.out (Nat.le_refl _)⟩
        · have HR := Lib.hid (hye (by rw [hO]; rfl))
          clear hno hye hO
          go_enter Try.func11, Try.ntmps11
          go_wp2_with fail
          refine (CC.out _).mono ?_
          rintro e w1 ⟨rfl, hb1⟩
          have HZ1 := Lib.hid (zero_still hb1 HZ.out)
          have HB1 := Lib.hid (below_then HB.out hb1)
          obtain ⟨z0, z1, y0, y1⟩ := fd_cells HZ1.out
          clear hb1
          go_wp2_with fail
          refine (CT.out _).mono ?_
          rintro e w2 ⟨rfl, rfl⟩
          go_wp2_with fail
          refine (CK.out _).mono ?_
          rintro e w2 ⟨rfl, rfl⟩
          go_wp2_with fail
          refine (CX.out _).mono ?_
          rintro e w2 ⟨rfl, rfl⟩
          go_wp2_with fail
          refine bodyPost_ret (results_cell_row_tmp rfl _ _ w.heap.size 26 #[.string a, .string b] (0, 0) _ rfl (fd_set HZ1.out) Try.underlying26 rfl (by kernel_rfl)) rfl ?_
          exact ⟨by rw [HR.out.1, HR.out.2]; rfl, below_set2 HB1.out (Nat.le_refl _)⟩

end Go.Proofs.Yteiihnniodkjbaa
