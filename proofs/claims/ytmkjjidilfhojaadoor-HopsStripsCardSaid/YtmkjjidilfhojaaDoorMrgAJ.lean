/-
  Texts that the laws of this seat lean on, one behind the other.
-/
import Derived.Test.YtmkjjidilfhojaaDoorMrgAH
/-
  Contract of slices.EqualFunc on fields, for any test that is handed in; the closures of package fields: named, not.
-/
section
namespace Go.Proofs.YtmkjjidilfhojaaDoor
open Go.RowKit

theorem equalF_any (A B : Option Addr) (n c m d : Nat) (L M : List Fd) (w : World) (h : SlF w A n c L) (h' : SlF w B m d M) (hn : n ≤ 1000000000) (hB : ∀ x ∈ L, Bd x) (hB' : ∀ x ∈ M, Bd x) (g : Nat) (caps : Array Value) (p : Fd → Fd → Bool)
    (eg : ∀ args W, (callFunc g args).run Tryd.prog W = .ok (.enter g args) W) (hp : PredT w g caps p) :
    Calls Tryd.prog 26 #[.slice A n c, .slice B m d, .func (.func g) #[] caps] w fun e w' => e = .returned (.bool (bthP p L M)) ∧ Below w.heap.size w w' := by
  have hlen := h.len
  have hlem := h'.len
  subst hlen hlem
  by_cases hl : L.length = M.length
  · have hlb : ((L.length : Int) == (M.length : Int)) = true := by rw [hl]; simp
    have hlc : ((L.length : Int) != (M.length : Int)) = false := by rw [hl]; simp
    have HLM := Lib.hid hl
    have HP := Lib.hid hp
    clear hp hl
    go_enter Tryd.func26, Tryd.ntmps26
    go_wp2_with fail
    go_loopw [7, 17] (fun _ i wr => ∃ k : Nat, k ≤ L.length ∧ i = .int .i64 k ∧ Hid (bthP p L M = bthP p (L.drop k) (M.drop k)) ∧ Below w.heap.size w wr) (fun _ i _ => L.length - (intOf i).toNat)
    case atStart => exact ⟨0, Nat.zero_le _, rfl, rfl, Below.refl _ _⟩
    case round =>
      obtain ⟨k, hk, rfl, hf, hbel⟩ := hrel
      by_cases hlt : k < L.length
      · have hlt2 : k < M.length := by have := HLM.out; omega
        obtain ⟨ad, rfl, hc⟩ := h.at_ (by omega)
        obtain ⟨bd, rfl, hd⟩ := h'.at_ (by omega)
        obtain ⟨hc0, hc1⟩ := hc k L[k] (List.getElem?_eq_getElem hlt)
        obtain ⟨hd0, hd1⟩ := hd k M[k] (List.getElem?_eq_getElem hlt2)
        have hcell0 := cell_kept hbel hc0
        have hcell1 := fd_snd (cell_kept hbel hc1)
        have hb5 : Below w.heap.size w (wr.alloc (.cells #[.string L[k].1, .string L[k].2] 33)) := hbel.alloc hbel.size _
        have hdell0 := cell_kept hb5 hd0
        have hdell1 := fd_snd (cell_kept hb5 hd1)
        have hz1 := hB _ (List.getElem_mem hlt)
        have hz2 := hB' _ (List.getElem_mem hlt2)
        have HS := Lib.hid (bthP_drop p L M k hlt hlt2)
        generalize L[k] = x at *
        generalize M[k] = y at *
        obtain ⟨a, b⟩ := x
        obtain ⟨a', b'⟩ := y
        have hcall := HP.out ((wr.alloc (.cells #[.string a, .string b] 33)).alloc (.cells #[.string a', .string b'] 33)) (a, b) (a', b') (hb5.alloc hb5.size _) hz1 hz2
        have hb6 := hb5.alloc hb5.size (.cells #[.string a', .string b'] 33)
        have HB6 := Lib.hid hb6
        unfold fdV at hcall
        have HC := Lib.hid hcall
        have hi0 : (0 : Int) ≤ (k : Int) := by omega
        have hi1 : (k : Int) < (L.length : Int) := by omega
        have hi2 : (k : Int) < (M.length : Int) := by omega
        clear hcall hc hd hc0 hc1 hd0 hd1 hb5 hb6
        cases hq : p (a, b) (a', b') with
        | true =>
          have HR : Hid (bthP p L M = bthP p (L.drop (k + 1)) (M.drop (k + 1))) := by
            show _ = _
            rw [hf.out, HS.out, hq]; rfl
          clear HS hf
          rw [hq] at HC
          clear hq
          go_wp2_with fail
          refine HC.out.mono ?_
          rintro e w1 ⟨rfl, hb1⟩
          clear HC
          go_wp2_with fail
          go_roundw
          case rel =>
            exact ⟨k + 1, by omega, by go_num, HR, HB6.out.trans (hb1.mono HB6.out.size)⟩
          case measure => simp [intOf]; omega
        | false =>
          have HR : Hid (bthP p L M = false) := by
            show _ = _
            rw [hf.out, HS.out, hq]; rfl
          clear HS hf
          rw [hq] at HC
          clear hq
          go_wp2_with fail
          refine HC.out.mono ?_
          rintro e w1 ⟨rfl, hb1⟩
          clear HC
          go_wp2_with fail
          go_ret
          exact ⟨by rw [HR.out]; rfl, HB6.out.trans (hb1.mono HB6.out.size)⟩
      · have HR : Hid (bthP p L M = true) := by
          show _ = _
          rw [hf.out, List.drop_eq_nil_of_le (by omega), List.drop_eq_nil_of_le (by have := HLM.out; omega)]; rfl
        clear hf
        go_wp2_with fail
        go_ret
        exact ⟨by rw [HR.out]; rfl, hbel⟩
  · have hlb : ((L.length : Int) == (M.length : Int)) = false := by rw [beq_eq_false_iff_ne]; omega
    have HR := Lib.hid (bthP_len p L M hl)
    clear hl
    go_enter Tryd.func26, Tryd.ntmps26
    go_wp2_with fail
    go_ret
    exact ⟨by rw [HR.out]; rfl, Below.refl _ _⟩

/-! ### named, not -/
theorem named_any (A : Option Addr) (n c : Nat) (v : Value) (hv : v = .slice A n c) (w : World) :
    Calls Tryd.prog 32 #[v] w fun e w' => e = .returned (.func (.func 40) #[] #[.pointer (some ⟨w.heap.size, 0, none⟩)]) ∧ w.alloc (.cells #[v] 28) = w' := by
  have hmf : ∀ (fn : Fn) (first cap : Array Value) (w : World), (Instr.makeFunc fn first cap).run Tryd.prog w = .ok (.func fn first cap) w := fun _ _ _ _ => rfl
  subst hv
  go_enter Tryd.func32, Tryd.ntmps32
  go_wp2
  go_ret
  exact ⟨rfl, rfl⟩

theorem not_any (g : Nat) (caps : Array Value) (v : Value) (hv : v = .func (.func g) #[] caps) (w : World) :
    Calls Tryd.prog 39 #[v] w fun e w' => e = .returned (.func (.func 46) #[] #[.pointer (some ⟨w.heap.size, 0, none⟩)]) ∧ w.alloc (.cells #[v] 50) = w' := by
  have hmf : ∀ (fn : Fn) (first cap : Array Value) (w : World), (Instr.makeFunc fn first cap).run Tryd.prog w = .ok (.func fn first cap) w := fun _ _ _ _ => rfl
  subst hv
  go_enter Tryd.func39, Tryd.ntmps39
  go_wp2
  go_ret
  exact ⟨rfl, rfl⟩

theorem named_in (a : Nat) (A : Option Addr) (n c : Nat) (names : List (List UInt8)) (W : World) (ha : W.cell? ⟨a, 0, none⟩ = some (.slice A n c)) (h : SlS W A n c names) (hz : ∀ x ∈ names, x.length ≤ maxLen) (hn : n ≤ 1000000000) (x : Fd) (hx : x.1.size ≤ maxLen) :
    Calls Tryd.prog 40 #[fdV x, .pointer (some ⟨a, 0, none⟩)] W fun e w' => e = .returned (.bool (nmd names x)) ∧ Below W.heap.size W w' := by
  have hlen := h.len
  subst hlen
  obtain ⟨f, v⟩ := x
  have hb0 : Below W.heap.size W (W.alloc (.cells #[.string f, .string v] 33)) := (Below.refl _ _).alloc (Nat.le_refl _) _
  have h0 := heap_alloc_new W (.cells #[.string f, .string v] 33)
  have ha0 := Lib.cell?_alloc_some (.cells #[.string f, .string v] 33) ha
  unfold fdV
  go_enter Tryd.func40, Tryd.ntmps40
  go_wp2_with fail
  go_loopw [8] (fun i wr => ∃ k : Nat, k ≤ names.length ∧ i = .int .i64 k ∧ Hid ((names.take k).any (fun n => sameB f (mkS n)) = false) ∧ Hid (wr.heap[W.heap.size]? = some (.cells #[.string f, .string v] 33 (0, 0))) ∧ Below W.heap.size W wr) (fun i _ => names.length - (intOf i).toNat)
  case atStart => exact ⟨0, Nat.zero_le _, rfl, rfl, h0, hb0⟩
  case round =>
    obtain ⟨k, hk, rfl, hf, hZ, hbel⟩ := hrel
    by_cases hlt : k < names.length
    · obtain ⟨ad, rfl, hc⟩ := h.at_ (by omega)
      have hcell := cell_kept hbel (hc k names[k] (List.getElem?_eq_getElem hlt))
      obtain ⟨z0, z1⟩ := zero_two hZ.out
      have hxl := hz _ (List.getElem_mem hlt)
      have HT : Hid ((names.take (k + 1)).any (fun n => sameB f (mkS n)) = sameB f (mkS names[k])) := by
        show _ = _
        rw [List.take_succ_eq_append_getElem hlt, List.any_append, hf.out]; simp
      have HM : Hid (sameB f (mkS names[k]) = true → nmd names (f, v) = true) := fun h => List.any_eq_true.2 ⟨names[k], List.getElem_mem hlt, h⟩
      have hys : (mkS names[k]).size ≤ maxLen := by rw [mkS_size]; exact hxl
      obtain ⟨y, hy⟩ : ∃ y, y = mkS names[k] := ⟨_, rfl⟩
      rw [← hy] at hcell HT HM hys
      have hi0 : (0 : Int) ≤ (k : Int) := by omega
      have hi1 : (k : Int) < (names.length : Int) := by omega
      clear hy hf hc
      cases hsm : sameB f y with
      | true =>
        have HS := Lib.hid hsm
        have HR := Lib.hid (HM.out hsm)
        clear hsm HM HT
        go_wp2_with fail
        refine (same_any f y _ hx hys).mono ?_
        rintro e w2 ⟨he, hb2⟩
        rw [HS.out] at he
        subst he
        go_wp2_with fail
        go_ret
        exact ⟨by rw [HR.out]; rfl, hbel.trans (hb2.mono hbel.size)⟩
      | false =>
        have HS := Lib.hid hsm
        have HR := Lib.hid (HT.out.trans hsm)
        clear hsm HM HT
        go_wp2_with fail
        refine (same_any f y _ hx hys).mono ?_
        rintro e w2 ⟨he, hb2⟩
        rw [HS.out] at he
        subst he
        go_wp2_with fail
        go_roundw
        case rel => exact ⟨k + 1, by omega, by go_num, HR, zero_still hb2 hZ.out, hbel.trans (hb2.mono hbel.size)⟩
        case measure => simp [intOf]; omega
    · have HR : Hid (nmd names (f, v) = false) := by
        have := hf.out
        rwa [List.take_of_length_le (by omega)] at this
      clear hf
      go_wp2_with fail
      go_ret
      exact ⟨by rw [HR.out]; rfl, hbel⟩

end Go.Proofs.YtmkjjidilfhojaaDoor
end
