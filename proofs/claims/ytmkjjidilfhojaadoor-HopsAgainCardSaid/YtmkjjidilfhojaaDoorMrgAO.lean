/-
  Texts that the laws of this seat lean on, one behind the other.
-/
import Derived.Test.YtmkjjidilfhojaaDoorMrgAM
import Derived.Test.YtmkjjidilfhojaaDoorMrgAN
import Derived.Test.YtmkjjidilfhojaaDoorMrgAE
import Derived.Test.YtmkjjidilfhojaaDoorMrgAK
import Derived.Test.YtmkjjidilfhojaaDoorMrgU
import Derived.Test.YtmkjjidilfhojaaDoorMrgAA
/-
  Contracts of package fields' Set, Same, Check.
-/
section
namespace Go.Proofs.YtmkjjidilfhojaaDoor
open Go.RowKit

theorem same_fields (A B : Option Addr) (n c m d : Nat) (L M : List Fd) (w : World) (h : SlF w A n c L) (h' : SlF w B m d M) (hn : n ≤ 100000000) (hB : ∀ x ∈ L, Bd x) (hB' : ∀ x ∈ M, Bd x) :
    Calls Tryd.prog 17 #[.slice A n c, .slice B m d] w fun e w' => e = .returned (.bool (bth L M)) ∧ Below w.heap.size w w' := by
  have hq := equalF_any A B n c m d L M w h h' (by omega) hB hB' 27 #[] alk enters_alike (alike_pred w)
  have hD : bth L M = bthP alk L M := rfl
  rw [hD]
  generalize bthP alk L M = R at *
  have HQ := Lib.hid hq
  clear hq hD
  go_enter Tryd.func17, Tryd.ntmps17
  go_wp2_with fail
  refine HQ.out.mono ?_
  rintro e w1 ⟨rfl, hb1⟩
  go_wp2_with fail
  go_ret
  exact ⟨rfl, hb1⟩

/-! ### Set -/
theorem set_place (L : List Fd) (f : Fd) : (idxP (fun x => sameB x.1 f.1) L = -1 ∧ fdSet L f = (fdDrop L [f.1.data.toList]).take (fdDrop L [f.1.data.toList]).length ++ [f] ++ (fdDrop L [f.1.data.toList]).drop (fdDrop L [f.1.data.toList]).length) ∨
    ∃ i : Nat, idxP (fun x => sameB x.1 f.1) L = i ∧ i ≤ (fdDrop L [f.1.data.toList]).length ∧ fdSet L f = (fdDrop L [f.1.data.toList]).take i ++ [f] ++ (fdDrop L [f.1.data.toList]).drop i := by
  have hD : fdDrop L [f.1.data.toList] = L.filter fun x => !sameB x.1 f.1 := by
    unfold fdDrop
    rw [nmd_one']
  rw [hD]
  rcases idxP_cases (fun x => sameB x.1 f.1) L with ⟨h1, h2⟩ | ⟨i, hi, h1, h2, h3⟩
  · refine .inl ⟨h1, ?_⟩
    rw [List.take_length, List.drop_length, List.append_nil]
    exact set_none f L h2
  · obtain ⟨h4, h5⟩ := set_at f L i hi h3 h2
    exact .inr ⟨i, h1, h4, h5⟩

end Go.Proofs.YtmkjjidilfhojaaDoor
end

/-
  Contracts of the reference's Few, Line (layer 9).
-/
section
namespace Go.Proofs.YtmkjjidilfhojaaDoor
open Go.RowKit

def okF (b : Nat) (x : Fd) : Bool := decide (x.1.size ≤ b) && decide (x.2.size ≤ b)
def fewB (L : List Fd) (m b : Nat) : Bool := (L.take (m + 1)).all (okF b) && decide (L.length ≤ m)
theorem few_bad {L : List Fd} {m b k : Nat} (hk : k < L.length) (hm : k ≤ m) (h : okF b L[k] = false) : fewB L m b = false := by
  unfold fewB
  have : (L.take (m + 1)).all (okF b) = false := by
    rw [List.all_eq_false]
    exact ⟨L[k], List.mem_take_iff_getElem.2 ⟨k, by omega, rfl⟩, by simp [h]⟩
  rw [this]; rfl
theorem few_all {L : List Fd} {m b k : Nat} (hk : L.length ≤ k) (h : (L.take k).all (okF b) = true) : fewB L m b = decide (L.length ≤ m) := by
  unfold fewB
  rw [List.take_of_length_le hk] at h
  have : (L.take (m + 1)).all (okF b) = true := by
    rw [List.all_eq_true] at h ⊢
    exact fun x hx => h x (List.mem_of_mem_take hx)
  rw [this, Bool.true_and]
theorem few_many {L : List Fd} {m b : Nat} (h : m < L.length) : fewB L m b = false := by
  unfold fewB
  rw [decide_eq_false (by omega), Bool.and_false]
/-- What the law's guard leaves. -/
theorem few_yes {L : List Fd} {m b : Nat} (h : fewB L m b = true) : L.length ≤ m ∧ ∀ x ∈ L, x.1.size ≤ b ∧ x.2.size ≤ b := by
  unfold fewB at h
  rw [Bool.and_eq_true, decide_eq_true_eq, List.all_eq_true] at h
  refine ⟨h.2, fun x hx => ?_⟩
  have := h.1 x (by rw [List.take_of_length_le (by omega)]; exact hx)
  simpa [okF] using this

theorem rf_few (A : Option Addr) (n c m b : Nat) (L : List Fd) (w : World) (h : SlF w A n c L) (hm : m ≤ 1000) :
    Calls Tryd.prog 6 #[.slice A n c, .int .i64 m, .int .i64 b] w fun e w' => e = .returned (.bool (fewB L m b)) ∧ w = w' := by
  have hlen := h.len
  subst hlen
  go_enter Tryd.func6, Tryd.ntmps6
  go_wp2_with fail
  go_loop [7] (fun i => ∃ k : Nat, k ≤ L.length ∧ k ≤ m + 1 ∧ i = .int .i64 k ∧ Hid ((L.take k).all (okF b) = true)) (fun i => L.length - (intOf i).toNat)
  case atStart => exact ⟨0, Nat.zero_le _, Nat.zero_le _, rfl, rfl⟩
  case round =>
    obtain ⟨k, hk, hkm, rfl, hf⟩ := hrel
    by_cases hlt : k < L.length
    · by_cases hle : k ≤ m
      · obtain ⟨ad, rfl, hc⟩ := h.at_ (by omega)
        obtain ⟨hc0, hc1⟩ := hc k L[k] (List.getElem?_eq_getElem hlt)
        have hcell1 := fd_snd hc1
        have HN : Hid (okF b L[k] = false → fewB L m b = false) := fun hh => few_bad hlt hle hh
        have HY : Hid (okF b L[k] = true → (L.take (k + 1)).all (okF b) = true) := fun hh => by
          rw [take_fd L k hlt, List.all_append, hf.out]; simp [hh]
        generalize L[k] = x at *
        obtain ⟨f, v⟩ := x
        have hi0 : (0 : Int) ≤ (k : Int) := by omega
        have hi1 : (k : Int) < (L.length : Int) := by omega
        have hi2 : (k : Int) ≤ (m : Int) := by omega
        clear hc hf
        by_cases h1 : (b : Int) < (f.size : Int)
        · have HR := Lib.hid (HN.out (by simp [okF]; omega))
          clear HN HY
          go_wp2_with fail
          go_ret
          exact ⟨by rw [HR.out]; rfl, rfl⟩
        · by_cases h2 : (b : Int) < (v.size : Int)
          · have HR := Lib.hid (HN.out (by simp [okF]; omega))
            clear HN HY
            go_wp2_with fail
            go_ret
            exact ⟨by rw [HR.out]; rfl, rfl⟩
          · have HR := Lib.hid (HY.out (by simp [okF]; omega))
            clear HN HY
            go_wp2_with fail
            go_round
            case rel => exact ⟨k + 1, by omega, by omega, by go_num, HR⟩
            case measure => simp [intOf]; omega
      · have hi1 : (k : Int) < (L.length : Int) := by omega
        have hi2 : ¬ (k : Int) ≤ (m : Int) := by omega
        have hi3 : ¬ (L.length : Int) ≤ (m : Int) := by omega
        have HR := Lib.hid (few_many (L := L) (m := m) (b := b) (by omega))
        clear hf
        go_wp2_with fail
        go_ret
        exact ⟨by rw [HR.out]; rfl, rfl⟩
    · have hi1 : ¬ (k : Int) < (L.length : Int) := by omega
      have HR := Lib.hid (few_all (L := L) (m := m) (b := b) (k := k) (by omega) hf.out)
      clear hf
      by_cases h3 : (L.length : Int) ≤ (m : Int)
      · have e : decide (L.length ≤ m) = true := decide_eq_true (by omega)
        rw [e] at HR
        clear e
        go_wp2_with fail
        go_ret
        exact ⟨by rw [HR.out]; rfl, rfl⟩
      · have e : decide (L.length ≤ m) = false := decide_eq_false (by omega)
        rw [e] at HR
        clear e
        go_wp2_with fail
        go_ret
        exact ⟨by rw [HR.out]; rfl, rfl⟩

end Go.Proofs.YtmkjjidilfhojaaDoor
end
