/-
  Contracts of package target: sets of bytes (anyOf and its closure), every, isHost.
-/
import Derived.Test.YtcmppmbieebkpaaGreatDoorOctIn
import Derived.Test.YtcmppmbieebkpaaGreatDoorComQ
import Derived.Test.YtcmppmbieebkpaaGreatDoorTarN
namespace Go.Proofs.YtcmppmbieebkpaaGreatDoor
open Go.RowKit

/-- Does one of the sets hold the byte? -/
def anyB (L : List (List UInt8)) (c : Int) : Bool := L.any fun m => decide (0 ≤ Lib.indexByte m c.toNat.toUInt8)

set_option maxHeartbeats 1000000 in
set_option maxRecDepth 100000 in
theorem any8_in (L : List (List UInt8)) (A : Option Addr) (n c p : Nat) (x : Int) (w : World) (hp : w.cell? ⟨p, 0, none⟩ = some (.slice A n c)) (hL : SlS w A n c L) :
    Calls Tryz.prog 39 #[.int .u8 x, .pointer (some ⟨p, 0, none⟩)] w fun e w' => e = .returned (.bool (anyB L x)) ∧ w = w' := by
  have hlen := hL.len
  have hle := hL.le
  unfold maxLen at hle
  have HL := Lib.hid hL
  clear hL
  go_enter Tryz.func39, Tryz.ntmps39
  go_wp2
  go_loop [3, 8] (fun r i => ∃ k : Nat, k ≤ n ∧ i = .int .i64 (k : Int) ∧ r = .bool false ∧ Hid (anyB (L.take k) x = false)) (fun _ i => n - (intOf i).toNat)
  case atStart => exact ⟨0, Nat.zero_le _, rfl, rfl, rfl⟩
  case round =>
    obtain ⟨k, hk, rfl, rfl, hf⟩ := hrel
    by_cases hlt : k < n
    · have hkl : k < L.length := by omega
      obtain ⟨ad, ha, hc⟩ := HL.out.at_ (by omega)
      have hc2 := hc k L[k] (List.getElem?_eq_getElem hkl)
      have HA : Hid (anyB (L.take (k + 1)) x = decide (0 ≤ Lib.indexByte L[k] x.toNat.toUInt8)) := by
        show _ = _
        rw [List.take_succ_eq_append_getElem hkl]
        unfold anyB at hf ⊢
        rw [List.any_append, hf.out]; simp
      have HT : Hid (decide (0 ≤ Lib.indexByte L[k] x.toNat.toUInt8) = true → anyB L x = true) := fun hh => List.any_eq_true.2 ⟨L[k], List.getElem_mem hkl, hh⟩
      have hi := idx_ext (mkS L[k]) x w
      rw [mkS_list] at hi
      generalize L[k] = m at *
      generalize hI : Lib.indexByte m x.toNat.toUInt8 = I at *
      subst ha
      clear hc hI
      by_cases hin : 0 ≤ I
      · have HH := Lib.hid (HT.out (decide_eq_true hin))
        have C := Lib.hid hi
        clear HT HA hi
        go_wp2_with (go_at_call 40; refine (C.out).mono ?_; rintro e w' ⟨rfl, rfl⟩)
        go_ret
        exact ⟨by rw [HH.out]; rfl, rfl⟩
      · have HH : Hid (anyB (L.take (k + 1)) x = false) := by
          show _ = _
          rw [HA.out]; exact decide_eq_false hin
        have C := Lib.hid hi
        clear HT HA hi
        go_wp2_with (go_at_call 40; refine (C.out).mono ?_; rintro e w' ⟨rfl, rfl⟩)
        go_round
        case rel => exact ⟨k + 1, by omega, by go_num, rfl, HH⟩
        case measure => simp [intOf]; omega
    · have HF : Hid (anyB L x = false) := by
        show _ = _
        have := hf.out
        rwa [List.take_of_length_le (by omega)] at this
      clear hf
      go_wp2
      go_ret
      exact ⟨by rw [HF.out]; rfl, rfl⟩

/-- The value v asks whether a byte is in one of the sets L. -/
def AnyAt (w : World) (L : List (List UInt8)) (v : Value) : Prop :=
  ∃ (p : Nat) (A : Option Addr) (n c : Nat), v = .func (.func 39) #[] #[.pointer (some ⟨p, 0, none⟩)] ∧ w.cell? ⟨p, 0, none⟩ = some (.slice A n c) ∧ SlS w A n c L
theorem AnyAt.below {w w' : World} {L : List (List UInt8)} {v : Value} (h : AnyAt w L v) (hb : Below w.heap.size w w') : AnyAt w' L v := by
  obtain ⟨p, A, n, c, h1, h2, h3⟩ := h
  exact ⟨p, A, n, c, h1, cell_kept hb h2, h3.below hb⟩

theorem anyOf_new (L : List (List UInt8)) (A : Option Addr) (n c : Nat) (w : World) (hL : SlS w A n c L) :
    Calls Tryz.prog 20 #[.slice A n c] w fun e w' => ∃ v, e = .returned v ∧ v = .func (.func 39) #[] #[.pointer (some ⟨w.heap.size, 0, none⟩)] ∧ AnyAt w' L v ∧ Below w.heap.size w w' := by
  have HL := Lib.hid hL
  clear hL
  go_enter Tryz.func20, Tryz.ntmps20
  go_wp2
  go_ret
  refine ⟨_, rfl, rfl, ⟨w.heap.size, A, n, c, rfl, ?_, HL.out.alloc _⟩, (Below.refl _ _).alloc (Nat.le_refl _) _⟩
  go_simp

theorem anyOf_three (a b d : ByteArray) (L : List (List UInt8)) (hL : [a.data.toList, b.data.toList, d.data.toList] = L) (w : World) (t : TypeId) :
    Calls Tryz.prog 20 #[.slice (some ⟨w.heap.size, 0, none⟩) 3 3] (w.alloc (.cells #[.string a, .string b, .string d] t)) fun e w' =>
      ∃ (p : Nat) (A : Option Addr) (n c : Nat), e = .returned (.func (.func 39) #[] #[.pointer (some ⟨p, 0, none⟩)]) ∧ w'.cell? ⟨p, 0, none⟩ = some (.slice A n c) ∧ SlS w' A n c L ∧ Below w.heap.size w w' := by
  have hS := SlS.texts w t [a, b, d] (by simp; decide)
  subst hL
  refine (anyOf_new _ _ _ _ _ hS).mono ?_
  rintro e w1 ⟨v, rfl, hv, ⟨p, A, n, c, hv2, hp, hL⟩, hb⟩
  subst hv2
  exact ⟨p, A, n, c, rfl, hp, hL, below_then ((Below.refl w.heap.size w).alloc (Nat.le_refl _) _) hb⟩
theorem anyOf_four (a b d f : ByteArray) (L : List (List UInt8)) (hL : [a.data.toList, b.data.toList, d.data.toList, f.data.toList] = L) (w : World) (t : TypeId) :
    Calls Tryz.prog 20 #[.slice (some ⟨w.heap.size, 0, none⟩) 4 4] (w.alloc (.cells #[.string a, .string b, .string d, .string f] t)) fun e w' =>
      ∃ (p : Nat) (A : Option Addr) (n c : Nat), e = .returned (.func (.func 39) #[] #[.pointer (some ⟨p, 0, none⟩)]) ∧ w'.cell? ⟨p, 0, none⟩ = some (.slice A n c) ∧ SlS w' A n c L ∧ Below w.heap.size w w' := by
  have hS := SlS.texts w t [a, b, d, f] (by simp; decide)
  subst hL
  refine (anyOf_new _ _ _ _ _ hS).mono ?_
  rintro e w1 ⟨v, rfl, hv, ⟨p, A, n, c, hv2, hp, hL⟩, hb⟩
  subst hv2
  exact ⟨p, A, n, c, rfl, hp, hL, below_then ((Below.refl w.heap.size w).alloc (Nat.le_refl _) _) hb⟩
theorem anyOf_five (a b d f g : ByteArray) (L : List (List UInt8)) (hL : [a.data.toList, b.data.toList, d.data.toList, f.data.toList, g.data.toList] = L) (w : World) (t : TypeId) :
    Calls Tryz.prog 20 #[.slice (some ⟨w.heap.size, 0, none⟩) 5 5] (w.alloc (.cells #[.string a, .string b, .string d, .string f, .string g] t)) fun e w' =>
      ∃ (p : Nat) (A : Option Addr) (n c : Nat), e = .returned (.func (.func 39) #[] #[.pointer (some ⟨p, 0, none⟩)]) ∧ w'.cell? ⟨p, 0, none⟩ = some (.slice A n c) ∧ SlS w' A n c L ∧ Below w.heap.size w w' := by
  have hS := SlS.texts w t [a, b, d, f, g] (by simp; decide)
  subst hL
  refine (anyOf_new _ _ _ _ _ hS).mono ?_
  rintro e w1 ⟨v, rfl, hv, ⟨p, A, n, c, hv2, hp, hL⟩, hb⟩
  subst hv2
  exact ⟨p, A, n, c, rfl, hp, hL, below_then ((Below.refl w.heap.size w).alloc (Nat.le_refl _) _) hb⟩
theorem anyOf_four_d (a b d f : ByteArray) (L : List (List UInt8)) (hL : [a.data.toList, b.data.toList, d.data.toList, f.data.toList] = L) (w : World) (t : TypeId) :
    Calls Tryz.prog 20 #[.slice (some ⟨w.heap.size, 0, none⟩) 4 4] (w.alloc (.cells #[.string a, .string b, .string d, .string f] t)).drew fun e w' =>
      ∃ (p : Nat) (A : Option Addr) (n c : Nat), e = .returned (.func (.func 39) #[] #[.pointer (some ⟨p, 0, none⟩)]) ∧ w'.cell? ⟨p, 0, none⟩ = some (.slice A n c) ∧ SlS w' A n c L ∧ Below w.heap.size w w' := by
  have hS := (SlS.texts w t [a, b, d, f] (by simp; decide)).drew
  subst hL
  refine (anyOf_new _ _ _ _ _ hS).mono ?_
  rintro e w1 ⟨v, rfl, hv, ⟨p, A, n, c, hv2, hp, hL⟩, hb⟩
  subst hv2
  exact ⟨p, A, n, c, rfl, hp, hL, below_then ((Below.refl w.heap.size w).alloc (Nat.le_refl _) _).drew hb⟩
theorem anyOf_five_d (a b d f g : ByteArray) (L : List (List UInt8)) (hL : [a.data.toList, b.data.toList, d.data.toList, f.data.toList, g.data.toList] = L) (w : World) (t : TypeId) :
    Calls Tryz.prog 20 #[.slice (some ⟨w.heap.size, 0, none⟩) 5 5] (w.alloc (.cells #[.string a, .string b, .string d, .string f, .string g] t)).drew fun e w' =>
      ∃ (p : Nat) (A : Option Addr) (n c : Nat), e = .returned (.func (.func 39) #[] #[.pointer (some ⟨p, 0, none⟩)]) ∧ w'.cell? ⟨p, 0, none⟩ = some (.slice A n c) ∧ SlS w' A n c L ∧ Below w.heap.size w w' := by
  have hS := (SlS.texts w t [a, b, d, f, g] (by simp; decide)).drew
  subst hL
  refine (anyOf_new _ _ _ _ _ hS).mono ?_
  rintro e w1 ⟨v, rfl, hv, ⟨p, A, n, c, hv2, hp, hL⟩, hb⟩
  subst hv2
  exact ⟨p, A, n, c, rfl, hp, hL, below_then ((Below.refl w.heap.size w).alloc (Nat.le_refl _) _).drew hb⟩

set_option maxHeartbeats 1000000 in
set_option maxRecDepth 100000 in
theorem every8_in (L : List (List UInt8)) (s : ByteArray) (w : World) (p : Nat) (A : Option Addr) (n c : Nat) (hp : w.cell? ⟨p, 0, none⟩ = some (.slice A n c)) (hL : SlS w A n c L) (hs : s.size ≤ 1000000000) :
    Calls Tryz.prog 47 #[.string s, .func (.func 39) #[] #[.pointer (some ⟨p, 0, none⟩)]] w fun e w' => e = .returned (.bool (allB (anyB L) s.data.toList)) ∧ w = w' := by
  have HC := Lib.hid (fun x => any8_in L A n c p x w hp hL)
  clear hp hL
  have hsz := Lib.hid (Lib.size_eq s)
  go_enter Tryz.func47, Tryz.ntmps47
  go_wp2
  go_loop [4, 8] (fun r i => ∃ k : Nat, k ≤ s.size ∧ i = .int .i64 (k : Int) ∧ r = .bool false ∧ Hid (allB (anyB L) (s.data.toList.take k) = true)) (fun _ i => s.size - (intOf i).toNat)
  case atStart => exact ⟨0, Nat.zero_le _, rfl, rfl, rfl⟩
  case round =>
    obtain ⟨k, hk, rfl, rfl, hf⟩ := hrel
    by_cases hlt : k < s.size
    · have HN : Hid (allB (anyB L) (s.data.toList.take (k + 1)) = anyB L (s[k].toNat : Int)) := by
        show _ = _
        rw [allB_take (anyB L) s k hlt, hf.out, Bool.true_and]
      have HF : Hid (anyB L (s[k].toNat : Int) = false → allB (anyB L) s.data.toList = false) := fun h => allB_false (anyB L) s k hlt h
      have c1 := HC.out (s[k].toNat : Int)
      rcases Bool.eq_false_or_eq_true (anyB L (s[k].toNat : Int)) with e | e
      · rw [e] at c1
        have HR : Hid (allB (anyB L) (s.data.toList.take (k + 1)) = true) := by show _ = _; rw [HN.out, e]
        have C1 := Lib.hid c1
        clear c1 HN HF e hf
        go_wp2_with (go_at_call 39; refine (C1.out).mono ?_; rintro e w' ⟨rfl, rfl⟩)
        go_round
        case rel => exact ⟨k + 1, by omega, by go_num, rfl, HR⟩
        case measure => simp [intOf]; omega
      · rw [e] at c1
        have HR := Lib.hid (HF.out e)
        have C1 := Lib.hid c1
        clear c1 HN HF e hf
        go_wp2_with (go_at_call 39; refine (C1.out).mono ?_; rintro e w' ⟨rfl, rfl⟩)
        go_ret
        exact ⟨by rw [HR.out]; rfl, rfl⟩
    · have HR : Hid (allB (anyB L) s.data.toList = true) := by
        show _ = _
        have := hf.out
        rwa [List.take_of_length_le (by have := hsz.out; omega)] at this
      clear hf
      go_wp2
      go_ret
      exact ⟨by rw [HR.out]; rfl, rfl⟩

def setL : List UInt8 := 97 :: 98 :: 99 :: 100 :: 101 :: 102 :: 103 :: 104 :: 105 :: 106 :: 107 :: 108 :: 109 :: 110 :: 111 :: 112 :: 113 :: 114 :: 115 :: 116 :: 117 :: 118 :: 119 :: 120 :: 121 :: 122 :: 65 :: 66 :: 67 :: 68 :: 69 :: 70 :: 71 :: 72 :: 73 :: 74 :: 75 :: 76 :: 77 :: 78 :: 79 :: 80 :: 81 :: 82 :: 83 :: 84 :: 85 :: 86 :: 87 :: 88 :: 89 :: 90 :: []
def setD : List UInt8 := [48, 49, 50, 51, 52, 53, 54, 55, 56, 57]
def setH : List UInt8 := [45, 46]
def setM : List UInt8 := [45, 46, 95, 126]
def setP : List UInt8 := [33, 36, 38, 39, 40, 41, 42, 43, 44, 59, 61, 58, 64, 47]
def setQ : List UInt8 := [63]
theorem anyH : ∀ n : Nat, n < 256 → anyB [setL, setD, setH] n = hostB n := by decide +kernel
theorem anyM : ∀ n : Nat, n < 256 → anyB [setL, setD, setM] n = softB n := by decide +kernel
theorem anyP : ∀ n : Nat, n < 256 → anyB [setL, setD, setM, setP] n = (letB n || hasB moreP n) := by decide +kernel
theorem anyQ : ∀ n : Nat, n < 256 → anyB [setL, setD, setM, setP, setQ] n = (letB n || hasB moreQ n) := by decide +kernel
theorem allB_same {p q : Int → Bool} (h : ∀ n : Nat, n < 256 → p n = q n) : ∀ l : List UInt8, allB p l = allB q l
  | [] => rfl
  | x :: l => by
    have := allB_same h l
    unfold allB at this ⊢
    rw [List.all_cons, List.all_cons, this, h x.toNat x.toNat_lt]

def isHostB (s : ByteArray) : Bool := decide (s.size ≠ 0) && decide (s.size ≤ 253) && allB hostB s.data.toList

set_option maxHeartbeats 2000000 in
set_option maxRecDepth 100000 in
theorem isHost_any (s : ByteArray) (w : World) (hs : s.size ≤ 1000000000) :
    Calls Tryz.prog 28 #[.string s] w fun e w' => e = .returned (.bool (isHostB s)) ∧ Below w.heap.size w w' := by
  by_cases k1 : s.size = 0
  · have HR : Hid (isHostB s = false) := by show _ = _; simp [isHostB, k1]
    have k1' : s.toList.isEmpty = true := by
      rw [Lib.toList_data, List.isEmpty_iff, ← List.length_eq_zero_iff, ← Lib.size_eq]; exact k1
    go_enter Tryz.func28, Tryz.ntmps28
    go_wp2_with fail
    go_ret
    exact ⟨by rw [HR.out]; rfl, Below.refl _ _⟩
  have k1' : s.toList.isEmpty = false := by
    rw [Lib.toList_data, ← Bool.not_eq_true, List.isEmpty_iff, ← List.length_eq_zero_iff, ← Lib.size_eq]; exact k1
  by_cases k2 : s.size ≤ 253
  · have HR : Hid (isHostB s = allB (anyB [setL, setD, setH]) s.data.toList) := by
      show _ = _
      rw [allB_same anyH]
      simp [isHostB, k1, k2]
    have k2' : (s.size : Int) ≤ 253 := by omega
    go_enter Tryz.func28, Tryz.ntmps28
    go_wp2_with fail
    refine (anyOf_three _ _ _ [setL, setD, setH] (by kernel_rfl) _ _).mono ?_
    rintro e w1 ⟨p, A, n, c, rfl, hp, hL, hbb⟩
    have HP := Lib.hid hp
    have HL := Lib.hid hL
    clear hp hL
    go_wp2_with fail
    refine (every8_in _ s _ _ _ _ _ HP.out HL.out hs).mono ?_
    rintro e w2 ⟨rfl, rfl⟩
    go_wp2_with fail
    go_ret
    exact ⟨by rw [HR.out]; rfl, hbb⟩
  · have HR : Hid (isHostB s = false) := by show _ = _; simp [isHostB, k2]
    have k2' : ¬ (s.size : Int) ≤ 253 := by omega
    go_enter Tryz.func28, Tryz.ntmps28
    go_wp2_with fail
    go_ret
    exact ⟨by rw [HR.out]; rfl, Below.refl _ _⟩

end Go.Proofs.YtcmppmbieebkpaaGreatDoor
