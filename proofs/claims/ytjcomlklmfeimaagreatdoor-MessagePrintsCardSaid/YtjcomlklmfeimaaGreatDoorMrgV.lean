/-
  Texts that the laws of this seat lean on, one behind the other.
-/
import Derived.Test.YtjcomlklmfeimaaGreatDoorMrgS
import Derived.Test.YtjcomlklmfeimaaGreatDoorMrgT
import Derived.Test.YtjcomlklmfeimaaGreatDoorMrgQ
import Derived.Test.YtjcomlklmfeimaaGreatDoorMrgR
import Derived.Test.YtjcomlklmfeimaaGreatDoorMrgK
import Derived.Test.YtjcomlklmfeimaaGreatDoorMrgM
import Derived.Deep.QuietTactic
import Derived.BigQuiet
import Derived.Test.YtjcomlklmfeimaaGreatDoorMrgO
import Derived.Deep.RegionHeld3
/-
  Contracts of package fields' Set, Same, Check.
-/
section
namespace Go.Proofs.YtjcomlklmfeimaaGreatDoor
open Go.RowKit

theorem chkF_any (A : Option Addr) (n c : Nat) (L : List Fd) (w : World) (h : SlF w A n c L) (hn : n ≤ 100000000) (hB : ∀ x ∈ L, Bd x) :
    Calls Tryz.prog 91 #[.slice A n c] w fun e w' => e = .returned (.int .i64 (chkN L)) ∧ Below w.heap.size w w' := by
  have hlen := h.len
  have hb1 : Below w.heap.size w (w.alloc (.cells #[.func (.func 100) #[] #[]] 138)) := (Below.refl _ _).alloc (Nat.le_refl _) _
  have p1 := not_pred (w.alloc (.cells #[.func (.func 100) #[] #[]] 138)) w.heap.size 100 #[] prpF (zero_one (heap_alloc_new w _)) enters_proper (proper_pred _)
  have q1 := idxF_has A n c L _ (h.below hb1) (by omega) hB 148 _ _ enters_not p1
  have q2 := fun W (hb : Below w.heap.size w W) => idxF_has A n c L W (h.below hb) (by omega) hB 122 #[] lngF enters_long (long_pred W)
  have hD : chkN L = if 64 < L.length then 4 else if L.any (fun x => !prpF x) then 21 else if L.any lngF then 4 else 0 := rfl
  rw [hD, hlen]
  generalize (L.any fun x => !prpF x) = X at *
  generalize L.any lngF = Y at *
  have Q1 := Lib.hid q1
  have Q2 := Lib.hid q2
  clear q1 q2 p1 hD h hlen
  by_cases h64 : 64 < n
  · rw [if_pos h64]
    have h64' : (64 : Int) < (n : Int) := by omega
    go_enter Tryz.func91, Tryz.ntmps91
    go_wp2_with fail
    go_ret
    exact ⟨rfl, Below.refl _ _⟩
  · rw [if_neg h64]
    have h64' : ¬ (64 : Int) < (n : Int) := by omega
    cases X
    · cases Y
      all_goals
        go_enter Tryz.func91, Tryz.ntmps91
        go_wp2_with fail
        refine (not_any _ _ _ rfl _).mono ?_
        rintro e w1 ⟨rfl, rfl⟩
        go_wp2_with fail
        refine Q1.out.mono ?_
        rintro e w1 ⟨rfl, hb2⟩
        go_wp2_with fail
        refine (Q2.out _ (zero_then hb2)).mono ?_
        rintro e w2 ⟨rfl, hb3⟩
        go_wp2_with fail
        go_ret
        exact ⟨rfl, below_then (zero_then hb2) hb3⟩
    · go_enter Tryz.func91, Tryz.ntmps91
      go_wp2_with fail
      refine (not_any _ _ _ rfl _).mono ?_
      rintro e w1 ⟨rfl, rfl⟩
      go_wp2_with fail
      refine Q1.out.mono ?_
      rintro e w1 ⟨rfl, hb2⟩
      go_wp2_with fail
      go_ret
      exact ⟨rfl, zero_then hb2⟩

/-! ### Set -/
theorem set_place (L : List Fd) (f : Fd) : (idxP (fun x => sameB x.1 f.1) L = -1 ∧ fdSet L f = (fdDrop L [f.1.data.toList]).take (fdDrop L [f.1.data.toList]).length ++ [f] ++ (fdDrop L [f.1.data.toList]).drop (fdDrop L [f.1.data.toList]).length) ∨
    ∃ i : Nat, idxP (fun x => sameB x.1 f.1) L = i ∧ i ≤ (fdDrop L [f.1.data.toList]).length ∧ fdSet L f = (fdDrop L [f.1.data.toList]).take i ++ [f] ++ (fdDrop L [f.1.data.toList]).drop i := by
  have hD : fdDrop L [f.1.data.toList] = L.filter fun x => !sameB x.1 f.1 := by
    unfold fdDrop
    rw [nmd_one']
  rw [hD]
  rcases idxP_cases (fun x => sameB x.1 f.1) L with ⟨h1, h2⟩ | ⟨i, hi, h1, h2, h3⟩
  · refine .inl ⟨h1, ?_⟩
    rw [List.take_length, List.drop_length, List.append_nil]
    exact set_none f L h2
  · obtain ⟨h4, h5⟩ := set_at f L i hi h3 h2
    exact .inr ⟨i, h1, h4, h5⟩

end Go.Proofs.YtjcomlklmfeimaaGreatDoor
end

/-
  Contracts of the reference's Few, Line (layer 9).
-/
section
namespace Go.Proofs.YtjcomlklmfeimaaGreatDoor
open Go.RowKit

def okF (b : Nat) (x : Fd) : Bool := decide (x.1.size ≤ b) && decide (x.2.size ≤ b)
def fewB (L : List Fd) (m b : Nat) : Bool := (L.take (m + 1)).all (okF b) && decide (L.length ≤ m)
theorem few_bad {L : List Fd} {m b k : Nat} (hk : k < L.length) (hm : k ≤ m) (h : okF b L[k] = false) : fewB L m b = false := by
  unfold fewB
  have : (L.take (m + 1)).all (okF b) = false := by
    rw [List.all_eq_false]
    exact ⟨L[k], List.mem_take_iff_getElem.2 ⟨k, by omega, rfl⟩, by simp [h]⟩
  rw [this]; rfl
theorem few_all {L : List Fd} {m b k : Nat} (hk : L.length ≤ k) (h : (L.take k).all (okF b) = true) : fewB L m b = decide (L.length ≤ m) := by
  unfold fewB
  rw [List.take_of_length_le hk] at h
  have : (L.take (m + 1)).all (okF b) = true := by
    rw [List.all_eq_true] at h ⊢
    exact fun x hx => h x (List.mem_of_mem_take hx)
  rw [this, Bool.true_and]
theorem few_many {L : List Fd} {m b : Nat} (h : m < L.length) : fewB L m b = false := by
  unfold fewB
  rw [decide_eq_false (by omega), Bool.and_false]
/-- What the law's guard leaves. -/
theorem few_yes {L : List Fd} {m b : Nat} (h : fewB L m b = true) : L.length ≤ m ∧ ∀ x ∈ L, x.1.size ≤ b ∧ x.2.size ≤ b := by
  unfold fewB at h
  rw [Bool.and_eq_true, decide_eq_true_eq, List.all_eq_true] at h
  refine ⟨h.2, fun x hx => ?_⟩
  have := h.1 x (by rw [List.take_of_length_le (by omega)]; exact hx)
  simpa [okF] using this

theorem rf_few (A : Option Addr) (n c m b : Nat) (L : List Fd) (w : World) (h : SlF w A n c L) (hm : m ≤ 1000) :
    Calls Tryz.prog 45 #[.slice A n c, .int .i64 m, .int .i64 b] w fun e w' => e = .returned (.bool (fewB L m b)) ∧ w = w' := by
  have hlen := h.len
  subst hlen
  go_enter Tryz.func45, Tryz.ntmps45
  go_wp2_with fail
  go_loop [7] (fun i => ∃ k : Nat, k ≤ L.length ∧ k ≤ m + 1 ∧ i = .int .i64 k ∧ Hid ((L.take k).all (okF b) = true)) (fun i => L.length - (intOf i).toNat)
  case atStart => exact ⟨0, Nat.zero_le _, Nat.zero_le _, rfl, rfl⟩
  case round =>
    obtain ⟨k, hk, hkm, rfl, hf⟩ := hrel
    by_cases hlt : k < L.length
    · by_cases hle : k ≤ m
      · obtain ⟨ad, rfl, hc⟩ := h.at_ (by omega)
        obtain ⟨hc0, hc1⟩ := hc k L[k] (List.getElem?_eq_getElem hlt)
        have hcell1 := fd_snd hc1
        have HN : Hid (okF b L[k] = false → fewB L m b = false) := fun hh => few_bad hlt hle hh
        have HY : Hid (okF b L[k] = true → (L.take (k + 1)).all (okF b) = true) := fun hh => by
          rw [take_fd L k hlt, List.all_append, hf.out]; simp [hh]
        generalize L[k] = x at *
        obtain ⟨f, v⟩ := x
        have hi0 : (0 : Int) ≤ (k : Int) := by omega
        have hi1 : (k : Int) < (L.length : Int) := by omega
        have hi2 : (k : Int) ≤ (m : Int) := by omega
        clear hc hf
        by_cases h1 : (b : Int) < (f.size : Int)
        · have HR := Lib.hid (HN.out (by simp [okF]; omega))
          clear HN HY
          go_wp2_with fail
          go_ret
          exact ⟨by rw [HR.out]; rfl, rfl⟩
        · by_cases h2 : (b : Int) < (v.size : Int)
          · have HR := Lib.hid (HN.out (by simp [okF]; omega))
            clear HN HY
            go_wp2_with fail
            go_ret
            exact ⟨by rw [HR.out]; rfl, rfl⟩
          · have HR := Lib.hid (HY.out (by simp [okF]; omega))
            clear HN HY
            go_wp2_with fail
            go_round
            case rel => exact ⟨k + 1, by omega, by omega, by go_num, HR⟩
            case measure => simp [intOf]; omega
      · have hi1 : (k : Int) < (L.length : Int) := by omega
        have hi2 : ¬ (k : Int) ≤ (m : Int) := by omega
        have hi3 : ¬ (L.length : Int) ≤ (m : Int) := by omega
        have HR := Lib.hid (few_many (L := L) (m := m) (b := b) (by omega))
        clear hf
        go_wp2_with fail
        go_ret
        exact ⟨by rw [HR.out]; rfl, rfl⟩
    · have hi1 : ¬ (k : Int) < (L.length : Int) := by omega
      have HR := Lib.hid (few_all (L := L) (m := m) (b := b) (k := k) (by omega) hf.out)
      clear hf
      by_cases h3 : (L.length : Int) ≤ (m : Int)
      · have e : decide (L.length ≤ m) = true := decide_eq_true (by omega)
        rw [e] at HR
        clear e
        go_wp2_with fail
        go_ret
        exact ⟨by rw [HR.out]; rfl, rfl⟩
      · have e : decide (L.length ≤ m) = false := decide_eq_false (by omega)
        rw [e] at HR
        clear e
        go_wp2_with fail
        go_ret
        exact ⟨by rw [HR.out]; rfl, rfl⟩

theorem rf_line (x : Fd) (hz : x.1.size + 2 + x.2.size ≤ 9223372036854775807) (w : World) :
    Calls Tryz.prog 88 #[fdV x] w fun e w' => e = .returned (.string (lineS x)) ∧ Below w.heap.size w w' := by
  obtain ⟨a, b⟩ := x
  have hD : lineS (a, b) = a ++ (⟨#[58, 32]⟩ : ByteArray) ++ b := rfl
  rw [hD]
  unfold fdV
  have hy : a.size + 2 + b.size ≤ 9223372036854775807 := hz
  clear hz
  have zz : (a ++ (⟨#[58, 32]⟩ : ByteArray)).size = a.size + 2 := by rw [ByteArray.size_append]; rfl
  have k1 : ¬ 9223372036854775807 < a.size + 2 := by omega
  have k2 : ¬ 9223372036854775807 < a.size + 2 + b.size := by omega
  go_enter Tryz.func88, Tryz.ntmps88
  go_wp2_with fail
  go_ret
  exact ⟨rfl, (Below.refl _ _).alloc (Nat.le_refl _) _⟩

end Go.Proofs.YtjcomlklmfeimaaGreatDoor
end

/-
  Contracts of the reference's All, Get, Has, Set (layer 9).
-/
section
namespace Go.Proofs.YtjcomlklmfeimaaGreatDoor
open Go.RowKit

set_option maxHeartbeats 4000000 in
set_option maxRecDepth 100000 in
theorem rf_all (A : Option Addr) (n c : Nat) (L : List Fd) (name : ByteArray) (w : World) (h : SlF w A n c L) (hn : n ≤ 100000000) (hz : name.size ≤ maxLen) :
    Calls Tryz.prog 74 #[.slice A n c, .string name] w (Vals w (fdAll L name)) := by
  have hlen := h.len
  subst hlen
  have hD : fdAll L name = (L.filter fun x => sameB x.1 name).map fun x => x.2.data.toList := rfl
  rw [hD]
  go_enter Tryz.func74, Tryz.ntmps74
  go_wp2_with fail
  go_loopw [5, 6] (fun v i wr => ∃ k : Nat, k ≤ L.length ∧ i = .int .i64 k ∧ Hid (OwnS wr w.heap.size 9 v (((L.take k).filter fun x => sameB x.1 name).map fun x => x.2.data.toList)) ∧ Below w.heap.size w wr) (fun _ i _ => L.length - (intOf i).toNat)
  case atStart => exact ⟨0, Nat.zero_le _, rfl, OwnS.nil _ _ _, Below.refl _ _⟩
  case round =>
    obtain ⟨k, hk, rfl, hown, hbel⟩ := hrel
    by_cases hlt : k < L.length
    · obtain ⟨ad, rfl, hc⟩ := h.at_ (by omega)
      obtain ⟨hc0, hc1⟩ := hc k L[k] (List.getElem?_eq_getElem hlt)
      have hcell0 := cell_kept hbel hc0
      have hc1' := fd_snd hc1
      have hz1 := (h.sz _ (List.getElem_mem hlt)).1
      have hlx : (((L.take k).filter fun x => sameB x.1 name).map fun x => x.2.data.toList).length ≤ k := by
        rw [List.length_map]
        exact Nat.le_trans (List.length_filter_le _ _) (by rw [List.length_take]; omega)
      have HF := filter_snoc (fun x => sameB x.1 name) (L.take k) L[k]
      rw [← take_fd L k hlt] at HF
      generalize L[k] = x at *
      obtain ⟨a, b⟩ := x
      have hi0 : (0 : Int) ≤ (k : Int) := by omega
      have hi1 : (k : Int) < (L.length : Int) := by omega
      have hs4 := hbel.size
      cases hsm : sameB a name with
      | true =>
        have HS : Hid (((L.take (k + 1)).filter fun x => sameB x.1 name).map (fun x => x.2.data.toList) = ((L.take k).filter fun x => sameB x.1 name).map (fun x => x.2.data.toList) ++ [b.data.toList]) := by
          show _ = _
          rw [HF, if_pos hsm, List.map_append]; rfl
        generalize hX : (((L.take k).filter fun x => sameB x.1 name).map fun x => x.2.data.toList) = X at *
        have HSM := Lib.hid hsm
        clear hc hc0 hc1 hX HF hsm
        go_wp2_with fail
        refine (r_same a name _ hz1 hz).mono ?_
        rintro e w1 ⟨he, hb1⟩
        rw [HSM.out] at he
        subst he
        have hcell1 := cell_kept (hbel.trans (hb1.mono hs4)) hc1'
        have HO := Lib.hid (hown.out.below hb1)
        have HB := Lib.hid (hbel.trans (hb1.mono hs4))
        have hs5 := HB.out.size
        clear hb1 hown
        go_wp2_with (at_builtin; refine wpList_append_sls rfl _ _ _ rfl w.heap.size 9 Tryz.underlying57 (by kernel_rfl) _ rfl X (HO.out.alloc _) _ _ _ rfl [b.data.toList] (SlS.textAt _ _ b rfl) (by simp; omega) (by simp; omega) w (HB.out.alloc hs5 _) ?_; intro v1 w2 ho2 hb2 hz2)
        go_roundw
        case rel => exact ⟨k + 1, by omega, by go_num, by show OwnS _ _ _ _ _; rw [HS.out]; exact ho2.out, hb2⟩
        case measure => simp [intOf]; omega
      | false =>
        have HS : Hid (((L.take (k + 1)).filter fun x => sameB x.1 name).map (fun x => x.2.data.toList) = ((L.take k).filter fun x => sameB x.1 name).map (fun x => x.2.data.toList)) := by
          show _ = _
          rw [HF, if_neg (by simp [hsm])]
        have HSM := Lib.hid hsm
        clear hc hc0 hc1 HF hsm hlx
        go_wp2_with fail
        refine (r_same a name _ hz1 hz).mono ?_
        rintro e w1 ⟨he, hb1⟩
        rw [HSM.out] at he
        subst he
        go_wp2_with fail
        go_roundw
        case rel => exact ⟨k + 1, by omega, by go_num, by show OwnS _ _ _ _ _; rw [HS.out]; exact hown.out.below hb1, hbel.trans (hb1.mono hs4)⟩
        case measure => simp [intOf]; omega
    · have HE : Hid (((L.take k).filter fun x => sameB x.1 name).map (fun x => x.2.data.toList) = (L.filter fun x => sameB x.1 name).map fun x => x.2.data.toList) := by
        show _ = _
        rw [List.take_of_length_le (by omega)]
      rw [HE.out] at hown
      go_wp2_with fail
      go_ret
      obtain ⟨A2, c2, rfl, hA, hH⟩ := hown.out.sls
      exact ⟨A2, c2, rfl, hA, hH, hbel⟩

/-! ### Set -/
theorem setR_drop (f : Fd) (L : List Fd) (k : Nat) (h : k < L.length) (b : Bool) : setR f b (L.drop k) = if sameB L[k].1 f.1 then (if b then setR f true (L.drop (k + 1)) else f :: setR f true (L.drop (k + 1))) else L[k] :: setR f b (L.drop (k + 1)) := by
  rw [List.drop_eq_getElem_cons h]; rfl

end Go.Proofs.YtjcomlklmfeimaaGreatDoor
end

/-
  Contracts of the reference's Drop, Same, Equal, Check (layer 9).
-/
section
namespace Go.Proofs.YtjcomlklmfeimaaGreatDoor
open Go.RowKit
set_option linter.unusedSimpArgs false

set_option maxHeartbeats 8000000 in
set_option maxRecDepth 100000 in
theorem rf_drop (A B : Option Addr) (n c m d : Nat) (L : List Fd) (names : List (List UInt8)) (w : World) (h : SlF w A n c L) (hn : n ≤ 100000000) (h' : SlS w B m d names) (hz : ∀ x ∈ names, x.length ≤ maxLen) (hm : m ≤ 1000000000) :
    Calls Tryz.prog 39 #[.slice A n c, .slice B m d] w fun e w' => ∃ v, e = .returned v ∧ OwnF w' w.heap.size 105 v (fdDrop L names) ∧ Below w.heap.size w w' := by
  have hlen := h.len
  have hlem := h'.len
  subst hlen hlem
  have hD : fdDrop L names = L.filter fun x => !nmd names x := rfl
  rw [hD]
  go_enter Tryz.func39, Tryz.ntmps39
  go_wp2_with fail
  go_loopw [5, 6] (fun v i wr => ∃ k : Nat, k ≤ L.length ∧ i = .int .i64 k ∧ Hid (OwnF wr w.heap.size 105 v ((L.take k).filter fun x => !nmd names x)) ∧ Below w.heap.size w wr) (fun _ i _ => L.length - (intOf i).toNat)
  case atStart => exact ⟨0, Nat.zero_le _, rfl, OwnF.nil _ _ _, Below.refl _ _⟩
  case round =>
    obtain ⟨k, hk, rfl, hown, hbel⟩ := hrel
    by_cases hlt : k < L.length
    · obtain ⟨ad, rfl, hc⟩ := h.at_ (by omega)
      obtain ⟨hc0, hc1⟩ := hc k L[k] (List.getElem?_eq_getElem hlt)
      have hz1 := h.sz _ (List.getElem_mem hlt)
      have hxl : ((L.take k).filter fun x => !nmd names x).length ≤ k := Nat.le_trans (List.length_filter_le _ _) (by rw [List.length_take]; omega)
      have HF := Lib.hid (filter_snoc (fun x => !nmd names x) (L.take k) L[k])
      rw [← take_fd L k hlt] at HF
      generalize L[k] = x at *
      obtain ⟨xa, xb⟩ := x
      generalize hX : ((L.take k).filter fun x => !nmd names x) = X at *
      have hi0 : (0 : Int) ≤ (k : Int) := by omega
      have hi1 : (k : Int) < (L.length : Int) := by omega
      have HC0 := Lib.hid (cell_kept hbel hc0)
      have HC1 := Lib.hid (fd_snd (cell_kept hbel hc1))
      have hsw := hbel.size
      clear hc hc0 hc1 hX
      go_wp2_with fail
      go_loopw [7, 8] (fun g i wi => ∃ (m : Nat) (q : Bool), m ≤ names.length ∧ i = .int .i64 m ∧ g = .bool q ∧ Hid (q = (names.take m).any fun y => sameB xa (mkS y)) ∧ Below wr.heap.size wr wi) (fun _ i _ => names.length - (intOf i).toNat)
      case atStart => exact ⟨0, false, Nat.zero_le _, rfl, rfl, rfl, Below.refl _ _⟩
      case round =>
        obtain ⟨j, q, hj, rfl, rfl, hq, hin⟩ := hrel
        by_cases hjl : j < names.length
        · obtain ⟨bd, rfl, hd⟩ := h'.at_ (by omega)
          have HD0 := Lib.hid (cell_kept (hbel.trans (hin.mono hsw)) (hd j names[j] (List.getElem?_eq_getElem hjl)))
          have HE0 := Lib.hid (cell_kept hin HC0.out)
          have hys : (mkS names[j]).size ≤ maxLen := by rw [mkS_size]; exact hz _ (List.getElem_mem hjl)
          have HT : Hid ((names.take (j + 1)).any (fun y => sameB xa (mkS y)) = (q || sameB xa (mkS names[j]))) := by
            show _ = _
            rw [List.take_succ_eq_append_getElem hjl, List.any_append, ← hq.out]; simp
          obtain ⟨y, hy⟩ : ∃ y, y = mkS names[j] := ⟨_, rfl⟩
          rw [← hy] at HD0 HT hys
          have cs := fun W => r_same xa y W hz1.1 hys
          generalize sameB xa y = s at *
          have CS := Lib.hid cs
          have hj0 : (0 : Int) ≤ (j : Int) := by omega
          have hj1 : (j : Int) < (names.length : Int) := by omega
          have HD0 : Hid (wr.drew.cell? (bd.add j) = some (.string y)) := HD0.out
          have HE0 : Hid (wr.drew.cell? (ad.add (k * 2)) = some (.string xa)) := HE0.out
          have hin := hin.drew
          clear hy hd hq cs
          cases q with
          | false =>
            go_wp2_with fail
            go_region_held3 (fun W => W.cell? (ad.add (k * 2)) = some (.string xa) ∧ W.cell? (bd.add j) = some (.string y)) (exact ⟨HE0.out, HD0.out⟩) (first
              | (go_at_call 75; refine (CS.out _).mono ?_; rintro e w1 ⟨rfl, hb1⟩; have HE0 := Lib.hid (cell_kept hb1 HE0.out); have HD0 := Lib.hid (cell_kept hb1 HD0.out); have hin := hin.trans (hb1.mono hin.size); clear hb1))
            go_wp2_with fail
            go_roundw
            case rel => exact ⟨j + 1, s, by omega, by go_num, rfl, HT.out.symm, hin⟩
            case measure => simp [intOf]; omega
          | true =>
            go_wp2_with fail
            refine wp_region_held_drew (S := fun _ => True) (by kernel_rfl) trivial (fun hHeld => ?_)
            refine take_yes (i := 0) (v := ?_) rfl rfl (by kernel_rfl) (by kernel_rfl) (by kernel_rfl) (by rfl) (fun _ _ _ h => h) ?y14 (by assumption) ?r14
            case y14 => (intro w hSw; (try dsimp only at hSw); go_simp; try with_reducible rfl)
            try simp only [Act.put, List.setIfInBounds_toArray, List.set_cons_zero, List.set_cons_succ]
            refine take_yes (i := 1) (v := ?_) rfl rfl (by kernel_rfl) (by kernel_rfl) (by kernel_rfl) (by rfl) (fun _ _ _ h => h) ?y15 (by assumption) ?r15
            case y15 => (intro w hSw; (try dsimp only at hSw); go_simp; try with_reducible rfl)
            try simp only [Act.put, List.setIfInBounds_toArray, List.set_cons_zero, List.set_cons_succ]
            refine take_not (i := 2) rfl rfl (by kernel_rfl) (by kernel_rfl) (by kernel_rfl) (by rfl) (fun _ _ _ h => h) (by assumption) ?_
            try simp only [Act.put, List.setIfInBounds_toArray, List.set_cons_zero, List.set_cons_succ]
            refine take_not (i := 3) rfl rfl (by kernel_rfl) (by kernel_rfl) (by kernel_rfl) (by rfl) (fun _ _ _ h => h) (by assumption) ?_
            try simp only [Act.put, List.setIfInBounds_toArray, List.set_cons_zero, List.set_cons_succ]
            refine take_not (i := 4) rfl rfl (by kernel_rfl) (by kernel_rfl) (by kernel_rfl) (by rfl) (fun _ _ _ h => h) (by assumption) ?_
            try simp only [Act.put, List.setIfInBounds_toArray, List.set_cons_zero, List.set_cons_succ]
            refine take_not (i := 5) rfl rfl (by kernel_rfl) (by kernel_rfl) (by kernel_rfl) (by rfl) (fun _ _ _ h => h) (by assumption) ?_
            try simp only [Act.put, List.setIfInBounds_toArray, List.set_cons_zero, List.set_cons_succ]
            refine take_not (i := 6) rfl rfl (by kernel_rfl) (by kernel_rfl) (by kernel_rfl) (by rfl) (fun _ _ _ h => h) (by assumption) ?_
            try simp only [Act.put, List.setIfInBounds_toArray, List.set_cons_zero, List.set_cons_succ]
            refine take_not (i := 7) rfl rfl (by kernel_rfl) (by kernel_rfl) (by kernel_rfl) (by rfl) (fun _ _ _ h => h) (by assumption) ?_
            try simp only [Act.put, List.setIfInBounds_toArray, List.set_cons_zero, List.set_cons_succ]
            refine take_not (i := 8) rfl rfl (by kernel_rfl) (by kernel_rfl) (by kernel_rfl) (by rfl) (fun _ _ _ h => h) (by assumption) ?_
            try simp only [Act.put, List.setIfInBounds_toArray, List.set_cons_zero, List.set_cons_succ]
            refine take_not (i := 9) rfl rfl (by kernel_rfl) (by kernel_rfl) (by kernel_rfl) (by rfl) (fun _ _ _ h => h) (by assumption) ?_
            try simp only [Act.put, List.setIfInBounds_toArray, List.set_cons_zero, List.set_cons_succ]
            refine take_not (i := 10) rfl rfl (by kernel_rfl) (by kernel_rfl) (by kernel_rfl) (by rfl) (fun _ _ _ h => h) (by assumption) ?_
            try simp only [Act.put, List.setIfInBounds_toArray, List.set_cons_zero, List.set_cons_succ]
            refine take_not (i := 11) rfl rfl (by kernel_rfl) (by kernel_rfl) (by kernel_rfl) (by rfl) (fun _ _ _ h => h) (by assumption) ?_
            try simp only [Act.put, List.setIfInBounds_toArray, List.set_cons_zero, List.set_cons_succ]
            refine take_yes (i := 12) (v := ?_) rfl rfl (by kernel_rfl) (by kernel_rfl) (by kernel_rfl) (by rfl) (fun _ _ _ h => h) ?y16 (by assumption) ?r16
            case y16 => (intro w hSw; (try dsimp only at hSw); go_simp; try with_reducible rfl)
            try simp only [Act.put, List.setIfInBounds_toArray, List.set_cons_zero, List.set_cons_succ]
            refine wpAnyH_ready (rs := [13]) (by kernel_rfl) (by simp) (AllReadyH.cons rfl (fun K hK => ?_) AllReadyH.nil)
            go_simp
            refine hK.out _ _ (trivial) (fun hHeld => ?_)
            clear hK
            try simp only [Act.put, List.setIfInBounds_toArray, List.set_cons_zero, List.set_cons_succ]
            refine wpAnyH_done (by kernel_rfl) ?_ _
            go_wp2_with fail
            go_roundw
            case rel => exact ⟨j + 1, true, by omega, by go_num, rfl, by show _ = _; rw [HT.out]; rfl, hin⟩
            case measure => simp [intOf]; omega
        · have HQ : Hid (q = nmd names (xa, xb)) := by
            have := hq.out
            rwa [List.take_of_length_le (by omega)] at this
          have hbw := hbel.trans (hin.mono hsw)
          have HC0 := Lib.hid (cell_kept hin HC0.out)
          have HC1 := Lib.hid (cell_kept hin HC1.out)
          have HO := Lib.hid (hown.out.below hin)
          have hs2 := hbw.size
          clear hq
          cases q with
          | false =>
            have HS : Hid ((L.take (k + 1)).filter (fun x => !nmd names x) = X ++ [(xa, xb)]) := by
              show _ = _
              rw [HF.out, if_pos (by rw [← HQ.out]; rfl)]
            have hcell0 := HC0.out
            have hcell1 := HC1.out
            clear HF HQ
            go_wp2_with (at_builtin; refine wpList_append_slf rfl _ _ _ rfl w.heap.size 105 Tryz.underlying23 (by kernel_rfl) _ rfl X (HO.out.alloc _) _ _ _ rfl [(xa, xb)] (SlF.one _ _ (xa, xb) hz1) (by simp; omega) (by simp; omega) w (hbw.alloc hs2 _) ?_; intro v1 w2 ho2 hb2 hz2)
            go_roundw
            case rel => exact ⟨k + 1, by omega, by go_num, by show OwnF _ _ _ _ _; rw [HS.out]; exact ho2.out, hb2⟩
            case measure => simp [intOf]; omega
          | true =>
            have HS : Hid ((L.take (k + 1)).filter (fun x => !nmd names x) = X) := by
              show _ = _
              rw [HF.out, if_neg (by rw [← HQ.out]; simp)]
            clear HF HQ
            go_wp2_with fail
            go_roundw
            case rel => exact ⟨k + 1, by omega, by go_num, by show OwnF _ _ _ _ _; rw [HS.out]; exact HO.out, hbw⟩
            case measure => simp [intOf]; omega
    · have HE : Hid ((L.take k).filter (fun x => !nmd names x) = L.filter fun x => !nmd names x) := by
        show _ = _
        rw [List.take_of_length_le (by omega)]
      rw [HE.out] at hown
      go_wp2_with fail
      go_ret
      exact ⟨_, rfl, hown.out, hbel⟩

/-- The very same field. -/
def eqF (x y : Fd) : Bool := (x.1.toList == y.1.toList) && (x.2.toList == y.2.toList)
theorem eqF_refl (x : Fd) : eqF x x = true := by simp [eqF]
theorem bthP_refl {α : Type} (p : α → α → Bool) (hp : ∀ x, p x x = true) : ∀ L : List α, bthP p L L = true
  | [] => rfl
  | x :: L => by unfold bthP; rw [hp, bthP_refl p hp L]; rfl

set_option maxHeartbeats 8000000 in
set_option maxRecDepth 100000 in
theorem rf_equal (A B : Option Addr) (n c m d : Nat) (L M : List Fd) (w : World) (h : SlF w A n c L) (h' : SlF w B m d M) (hn : n ≤ 100000000) :
    Calls Tryz.prog 41 #[.slice A n c, .slice B m d] w fun e w' => e = .returned (.bool (bthP eqF L M)) ∧ Below w.heap.size w w' := by
  have hlen := h.len
  have hlem := h'.len
  subst hlen hlem
  by_cases hl : L.length = M.length
  · have hlb : ((L.length : Int) == (M.length : Int)) = true := by rw [hl]; simp
    have hlc : ((L.length : Int) != (M.length : Int)) = false := by rw [hl]; simp
    have HLM := Lib.hid hl
    clear hl
    go_enter Tryz.func41, Tryz.ntmps41
    go_wp2_with fail
    go_loopw [5] (fun i wr => ∃ k : Nat, k ≤ L.length ∧ i = .int .i64 k ∧ Hid (bthP eqF L M = bthP eqF (L.drop k) (M.drop k)) ∧ Below w.heap.size w wr) (fun i _ => L.length - (intOf i).toNat)
    case atStart => exact ⟨0, Nat.zero_le _, rfl, rfl, Below.refl _ _⟩
    case round =>
      obtain ⟨k, hk, rfl, hf, hbel⟩ := hrel
      by_cases hlt : k < L.length
      · have hlt2 : k < M.length := by have := HLM.out; omega
        obtain ⟨ad, rfl, hc⟩ := h.at_ (by omega)
        obtain ⟨bd, rfl, hd⟩ := h'.at_ (by omega)
        obtain ⟨hc0, hc1⟩ := hc k L[k] (List.getElem?_eq_getElem hlt)
        obtain ⟨hd0, hd1⟩ := hd k M[k] (List.getElem?_eq_getElem hlt2)
        have HS := Lib.hid (bthP_drop eqF L M k hlt hlt2)
        generalize L[k] = x at *
        generalize M[k] = y at *
        obtain ⟨xa, xb⟩ := x
        obtain ⟨ya, yb⟩ := y
        have HC0 := Lib.hid (cell_kept hbel.drew hc0)
        have HC1 := Lib.hid (fd_snd (cell_kept hbel.drew hc1))
        have HD0 := Lib.hid (cell_kept hbel.drew hd0)
        have HD1 := Lib.hid (fd_snd (cell_kept hbel.drew hd1))
        have hA : eqF (xa, xb) (ya, yb) = ((xa.toList == ya.toList) && (xb.toList == yb.toList)) := rfl
        rw [hA] at HS
        have hi0 : (0 : Int) ≤ (k : Int) := by omega
        have hi1 : (k : Int) < (L.length : Int) := by omega
        have hi2 : (k : Int) < (M.length : Int) := by omega
        have hbel := hbel.drew
        clear hc hd hc0 hc1 hd0 hd1 hA
        have both : ∀ t : Bool, t = true ∨ t = false := fun t => by cases t <;> simp
        rcases both (xa.toList == ya.toList) with hT | hT
        · rcases both (xb.toList == yb.toList) with hS | hS
          · have HR : Hid (bthP eqF L M = bthP eqF (L.drop (k + 1)) (M.drop (k + 1))) := by
              show _ = _
              rw [hf.out, HS.out, hS, hT]; rfl
            clear HS hf
            go_wp2_with fail
            go_region_held3 (fun W => W.cell? (ad.add (k * 2)) = some (.string xa) ∧ W.cell? { block := (ad.add (k * 2)).block, off := (ad.add (k * 2)).off + 1 } = some (.string xb) ∧ W.cell? (bd.add (k * 2)) = some (.string ya) ∧ W.cell? { block := (bd.add (k * 2)).block, off := (bd.add (k * 2)).off + 1 } = some (.string yb)) (exact ⟨HC0.out, HC1.out, HD0.out, HD1.out⟩) (fail)
            go_wp2_with fail
            go_roundw
            case rel => exact ⟨k + 1, by omega, by go_num, HR, hbel⟩
            case measure => simp [intOf]; omega
          · have HR : Hid (bthP eqF L M = false) := by
              show _ = _
              rw [hf.out, HS.out, hS, Bool.and_false]; rfl
            clear HS hf
            go_wp2_with fail
            go_region_held3 (fun W => W.cell? (ad.add (k * 2)) = some (.string xa) ∧ W.cell? { block := (ad.add (k * 2)).block, off := (ad.add (k * 2)).off + 1 } = some (.string xb) ∧ W.cell? (bd.add (k * 2)) = some (.string ya) ∧ W.cell? { block := (bd.add (k * 2)).block, off := (bd.add (k * 2)).off + 1 } = some (.string yb)) (exact ⟨HC0.out, HC1.out, HD0.out, HD1.out⟩) (fail)
            go_wp2_with fail
            go_ret
            exact ⟨by rw [HR.out]; rfl, hbel⟩
        · have HR : Hid (bthP eqF L M = false) := by
            show _ = _
            rw [hf.out, HS.out, hT]; rfl
          clear HS hf
          go_wp2_with fail
          go_region_held3 (fun W => W.cell? (ad.add (k * 2)) = some (.string xa) ∧ W.cell? { block := (ad.add (k * 2)).block, off := (ad.add (k * 2)).off + 1 } = some (.string xb) ∧ W.cell? (bd.add (k * 2)) = some (.string ya) ∧ W.cell? { block := (bd.add (k * 2)).block, off := (bd.add (k * 2)).off + 1 } = some (.string yb)) (exact ⟨HC0.out, HC1.out, HD0.out, HD1.out⟩) (fail)
          go_wp2_with fail
          go_ret
          exact ⟨by rw [HR.out]; rfl, hbel⟩
      · have HR : Hid (bthP eqF L M = true) := by
          show _ = _
          rw [hf.out, List.drop_eq_nil_of_le (by omega), List.drop_eq_nil_of_le (by have := HLM.out; omega)]; rfl
        clear hf
        go_wp2_with fail
        go_ret
        exact ⟨by rw [HR.out]; rfl, hbel⟩
  · have hlb : ((L.length : Int) == (M.length : Int)) = false := by rw [beq_eq_false_iff_ne]; omega
    have HR := Lib.hid (bthP_len eqF L M hl)
    clear hl
    go_enter Tryz.func41, Tryz.ntmps41
    go_wp2_with fail
    go_ret
    exact ⟨by rw [HR.out]; rfl, Below.refl _ _⟩


end Go.Proofs.YtjcomlklmfeimaaGreatDoor
end

/-
  Contract of the reference's Check (layer 9).
-/
section
namespace Go.Proofs.YtjcomlklmfeimaaGreatDoor
open Go.RowKit
set_option linter.unusedSimpArgs false

set_option maxHeartbeats 16000000 in
set_option maxRecDepth 100000 in
theorem rf_check (A : Option Addr) (n c : Nat) (L : List Fd) (w : World) (h : SlF w A n c L) (hn : n ≤ 100000000) (hB : ∀ x ∈ L, Bd x) :
    Calls Tryz.prog 92 #[.slice A n c] w fun e w' => e = .returned (.int .i64 (chkN L)) ∧ Below w.heap.size w w' := by
  have hlen := h.len
  subst hlen
  have hD : chkN L = if 64 < L.length then 4 else if L.any (fun x => !prpF x) then 21 else if L.any lngF then 4 else 0 := rfl
  rw [hD]
  clear hD
  by_cases h64 : 64 < L.length
  · rw [if_pos h64]
    have h64' : (64 : Int) < (L.length : Int) := by omega
    go_enter Tryz.func92, Tryz.ntmps92
    go_wp2_with fail
    go_ret
    exact ⟨rfl, Below.refl _ _⟩
  · rw [if_neg h64]
    have h64' : ¬ (64 : Int) < (L.length : Int) := by omega
    obtain ⟨R, hR⟩ : ∃ R : Int, R = if L.any (fun x => !prpF x) then 21 else if L.any lngF then 4 else 0 := ⟨_, rfl⟩
    have HRR := Lib.hid hR
    rw [← hR]
    clear hR
    go_enter Tryz.func92, Tryz.ntmps92
    go_wp2_with fail
    go_loopw [3] (fun i wr => ∃ k : Nat, k ≤ L.length ∧ i = .int .i64 k ∧ Hid ((L.take k).any (fun x => !prpF x) = false) ∧ Below w.heap.size w wr) (fun i _ => L.length - (intOf i).toNat)
    case atStart => exact ⟨0, Nat.zero_le _, rfl, rfl, Below.refl _ _⟩
    case round =>
      obtain ⟨k, hk, rfl, hf, hbel⟩ := hrel
      by_cases hlt : k < L.length
      · obtain ⟨ad, rfl, hc⟩ := h.at_ (by omega)
        obtain ⟨hc0, hc1⟩ := hc k L[k] (List.getElem?_eq_getElem hlt)
        have hz := h.sz _ (List.getElem_mem hlt)
        have HN : Hid (prpF L[k] = false → R = 21) := fun hh => by
          rw [HRR.out, if_pos (List.any_eq_true.2 ⟨L[k], List.getElem_mem hlt, by simp [hh]⟩)]
        have HY : Hid (prpF L[k] = true → (L.take (k + 1)).any (fun x => !prpF x) = false) := fun hh => by
          rw [take_fd L k hlt, List.any_append, hf.out]; simp [hh]
        generalize L[k] = x at *
        obtain ⟨xa, xb⟩ := x
        have hP : prpF (xa, xb) = (((!xa.toList.isEmpty && allB tokB xa.data.toList) && allB txtB xb.data.toList) && ((mkS (trimL xb.data.toList)).toList == xb.toList)) := rfl
        rw [hP] at HN HY
        have HC0 : Hid (wr.drew.cell? (ad.add (k * 2)) = some (.string xa)) := cell_kept hbel.drew hc0
        have HC1 : Hid (wr.drew.cell? { block := (ad.add (k * 2)).block, off := (ad.add (k * 2)).off + 1 } = some (.string xb)) := fd_snd (cell_kept hbel.drew hc1)
        have ck := fun W => r_isToken xa W hz.1
        have cx := fun W => r_isText xb W hz.2
        have cm := fun W => r_trim xb W hz.2
        generalize (!xa.toList.isEmpty && allB tokB xa.data.toList) = tk at *
        generalize allB txtB xb.data.toList = tx at *
        generalize mkS (trimL xb.data.toList) = S at *
        have CK := Lib.hid ck
        have CX := Lib.hid cx
        have CM := Lib.hid cm
        have hi0 : (0 : Int) ≤ (k : Int) := by omega
        have hi1 : (k : Int) < (L.length : Int) := by omega
        have hbel := hbel.drew
        clear hc hc0 hc1 ck cx cm hP hf hz
        cases tk with
        | false =>
          have HR := Lib.hid (HN.out rfl)
          clear HN HY
          go_wp2_with fail
          refine wp_region_held_drew (S := fun W => W.cell? (ad.add (k * 2)) = some (.string xa) ∧ W.cell? { block := (ad.add (k * 2)).block, off := (ad.add (k * 2)).off + 1 } = some (.string xb)) (by kernel_rfl) ⟨HC0.out, HC1.out⟩ (fun hHeld => ?_)
          refine take_yes (i := 0) (v := ?_) rfl rfl (by kernel_rfl) (by kernel_rfl) (by kernel_rfl) (by rfl) (fun _ _ _ h => h) ?y1 (by assumption) ?r1
          case y1 => (intro w hSw; (try dsimp only at hSw); go_simp; try with_reducible rfl)
          try simp only [Act.put, List.setIfInBounds_toArray, List.set_cons_zero, List.set_cons_succ]
          refine take_yes (i := 1) (v := ?_) rfl rfl (by kernel_rfl) (by kernel_rfl) (by kernel_rfl) (by rfl) (fun _ _ _ h => h) ?y2 (by assumption) ?r2
          case y2 => (intro w hSw; (try dsimp only at hSw); go_simp; try with_reducible rfl)
          try simp only [Act.put, List.setIfInBounds_toArray, List.set_cons_zero, List.set_cons_succ]
          refine take_yes (i := 2) (v := ?_) rfl rfl (by kernel_rfl) (by kernel_rfl) (by kernel_rfl) (by rfl) (fun _ _ _ h => h) ?y3 (by assumption) ?r3
          case y3 => (intro w hSw; (try dsimp only at hSw); go_simp; try with_reducible rfl)
          try simp only [Act.put, List.setIfInBounds_toArray, List.set_cons_zero, List.set_cons_succ]
          refine take_yes (i := 3) (v := ?_) rfl rfl (by kernel_rfl) (by kernel_rfl) (by kernel_rfl) (by rfl) (fun _ _ _ h => h) ?y4 (by assumption) ?r4
          case y4 => (intro w hSw; (try dsimp only at hSw); go_simp; try with_reducible rfl)
          try simp only [Act.put, List.setIfInBounds_toArray, List.set_cons_zero, List.set_cons_succ]
          refine take_yes (i := 4) (v := ?_) rfl rfl (by kernel_rfl) (by kernel_rfl) (by kernel_rfl) (by rfl) (fun _ _ _ h => h) ?y5 (by assumption) ?r5
          case y5 => (intro w hSw; (try dsimp only at hSw); go_simp; try with_reducible rfl)
          try simp only [Act.put, List.setIfInBounds_toArray, List.set_cons_zero, List.set_cons_succ]
          refine wpAnyH_ready (rs := [5]) (by kernel_rfl) (by simp) (AllReadyH.cons rfl (fun K hK => ?_) AllReadyH.nil)
          go_simp
          go_at_call 72
          refine (CK.out _).mono ?_
          rintro e w1 ⟨rfl, rfl⟩
          go_wp2_with fail
          refine hK.out _ _ (⟨HC0.out, HC1.out⟩) (fun hHeld => ?_)
          clear hK
          try simp only [Act.put, List.setIfInBounds_toArray, List.set_cons_zero, List.set_cons_succ]
          refine take_yes (i := 6) (v := ?_) rfl rfl (by kernel_rfl) (by kernel_rfl) (by kernel_rfl) (by rfl) (fun _ _ _ h => h) ?y6 (by assumption) ?r6
          case y6 => (intro w hSw; (try dsimp only at hSw); go_simp; try with_reducible rfl)
          try simp only [Act.put, List.setIfInBounds_toArray, List.set_cons_zero, List.set_cons_succ]
          refine take_yes (i := 7) (v := ?_) rfl rfl (by kernel_rfl) (by kernel_rfl) (by kernel_rfl) (by rfl) (fun _ _ _ h => h) ?y7 (by assumption) ?r7
          case y7 => (intro w hSw; (try dsimp only at hSw); go_simp; try with_reducible rfl)
          try simp only [Act.put, List.setIfInBounds_toArray, List.set_cons_zero, List.set_cons_succ]
          refine take_not (i := 8) rfl rfl (by kernel_rfl) (by kernel_rfl) (by kernel_rfl) (by rfl) (fun _ _ _ h => h) (by assumption) ?_
          try simp only [Act.put, List.setIfInBounds_toArray, List.set_cons_zero, List.set_cons_succ]
          refine take_not (i := 9) rfl rfl (by kernel_rfl) (by kernel_rfl) (by kernel_rfl) (by rfl) (fun _ _ _ h => h) (by assumption) ?_
          try simp only [Act.put, List.setIfInBounds_toArray, List.set_cons_zero, List.set_cons_succ]
          refine take_not (i := 10) rfl rfl (by kernel_rfl) (by kernel_rfl) (by kernel_rfl) (by rfl) (fun _ _ _ h => h) (by assumption) ?_
          try simp only [Act.put, List.setIfInBounds_toArray, List.set_cons_zero, List.set_cons_succ]
          refine take_not (i := 11) rfl rfl (by kernel_rfl) (by kernel_rfl) (by kernel_rfl) (by rfl) (fun _ _ _ h => h) (by assumption) ?_
          try simp only [Act.put, List.setIfInBounds_toArray, List.set_cons_zero, List.set_cons_succ]
          refine take_not (i := 12) rfl rfl (by kernel_rfl) (by kernel_rfl) (by kernel_rfl) (by rfl) (fun _ _ _ h => h) (by assumption) ?_
          try simp only [Act.put, List.setIfInBounds_toArray, List.set_cons_zero, List.set_cons_succ]
          refine take_not (i := 13) rfl rfl (by kernel_rfl) (by kernel_rfl) (by kernel_rfl) (by rfl) (fun _ _ _ h => h) (by assumption) ?_
          try simp only [Act.put, List.setIfInBounds_toArray, List.set_cons_zero, List.set_cons_succ]
          refine take_not (i := 14) rfl rfl (by kernel_rfl) (by kernel_rfl) (by kernel_rfl) (by rfl) (fun _ _ _ h => h) (by assumption) ?_
          try simp only [Act.put, List.setIfInBounds_toArray, List.set_cons_zero, List.set_cons_succ]
          refine take_yes (i := 15) (v := ?_) rfl rfl (by kernel_rfl) (by kernel_rfl) (by kernel_rfl) (by rfl) (fun _ _ _ h => h) ?y8 (by assumption) ?r8
          case y8 => (intro w hSw; (try dsimp only at hSw); go_simp; try with_reducible rfl)
          try simp only [Act.put, List.setIfInBounds_toArray, List.set_cons_zero, List.set_cons_succ]
          refine take_yes (i := 16) (v := ?_) rfl rfl (by kernel_rfl) (by kernel_rfl) (by kernel_rfl) (by rfl) (fun _ _ _ h => h) ?y9 (by assumption) ?r9
          case y9 => (intro w hSw; (try dsimp only at hSw); go_simp; try with_reducible rfl)
          try simp only [Act.put, List.setIfInBounds_toArray, List.set_cons_zero, List.set_cons_succ]
          refine take_not (i := 17) rfl rfl (by kernel_rfl) (by kernel_rfl) (by kernel_rfl) (by rfl) (fun _ _ _ h => h) (by assumption) ?_
          try simp only [Act.put, List.setIfInBounds_toArray, List.set_cons_zero, List.set_cons_succ]
          refine take_not (i := 18) rfl rfl (by kernel_rfl) (by kernel_rfl) (by kernel_rfl) (by rfl) (fun _ _ _ h => h) (by assumption) ?_
          try simp only [Act.put, List.setIfInBounds_toArray, List.set_cons_zero, List.set_cons_succ]
          refine take_not (i := 19) rfl rfl (by kernel_rfl) (by kernel_rfl) (by kernel_rfl) (by rfl) (fun _ _ _ h => h) (by assumption) ?_
          try simp only [Act.put, List.setIfInBounds_toArray, List.set_cons_zero, List.set_cons_succ]
          refine take_not (i := 20) rfl rfl (by kernel_rfl) (by kernel_rfl) (by kernel_rfl) (by rfl) (fun _ _ _ h => h) (by assumption) ?_
          try simp only [Act.put, List.setIfInBounds_toArray, List.set_cons_zero, List.set_cons_succ]
          refine take_not (i := 21) rfl rfl (by kernel_rfl) (by kernel_rfl) (by kernel_rfl) (by rfl) (fun _ _ _ h => h) (by assumption) ?_
          try simp only [Act.put, List.setIfInBounds_toArray, List.set_cons_zero, List.set_cons_succ]
          refine take_not (i := 22) rfl rfl (by kernel_rfl) (by kernel_rfl) (by kernel_rfl) (by rfl) (fun _ _ _ h => h) (by assumption) ?_
          try simp only [Act.put, List.setIfInBounds_toArray, List.set_cons_zero, List.set_cons_succ]
          refine take_not (i := 23) rfl rfl (by kernel_rfl) (by kernel_rfl) (by kernel_rfl) (by rfl) (fun _ _ _ h => h) (by assumption) ?_
          try simp only [Act.put, List.setIfInBounds_toArray, List.set_cons_zero, List.set_cons_succ]
          refine take_not (i := 24) rfl rfl (by kernel_rfl) (by kernel_rfl) (by kernel_rfl) (by rfl) (fun _ _ _ h => h) (by assumption) ?_
          try simp only [Act.put, List.setIfInBounds_toArray, List.set_cons_zero, List.set_cons_succ]
          refine take_not (i := 25) rfl rfl (by kernel_rfl) (by kernel_rfl) (by kernel_rfl) (by rfl) (fun _ _ _ h => h) (by assumption) ?_
          try simp only [Act.put, List.setIfInBounds_toArray, List.set_cons_zero, List.set_cons_succ]
          refine take_not (i := 26) rfl rfl (by kernel_rfl) (by kernel_rfl) (by kernel_rfl) (by rfl) (fun _ _ _ h => h) (by assumption) ?_
          try simp only [Act.put, List.setIfInBounds_toArray, List.set_cons_zero, List.set_cons_succ]
          refine take_not (i := 27) rfl rfl (by kernel_rfl) (by kernel_rfl) (by kernel_rfl) (by rfl) (fun _ _ _ h => h) (by assumption) ?_
          try simp only [Act.put, List.setIfInBounds_toArray, List.set_cons_zero, List.set_cons_succ]
          refine take_not (i := 28) rfl rfl (by kernel_rfl) (by kernel_rfl) (by kernel_rfl) (by rfl) (fun _ _ _ h => h) (by assumption) ?_
          try simp only [Act.put, List.setIfInBounds_toArray, List.set_cons_zero, List.set_cons_succ]
          refine take_yes (i := 29) (v := ?_) rfl rfl (by kernel_rfl) (by kernel_rfl) (by kernel_rfl) (by rfl) (fun _ _ _ h => h) ?y10 (by assumption) ?r10
          case y10 => (intro w hSw; (try dsimp only at hSw); go_simp; try with_reducible rfl)
          try simp only [Act.put, List.setIfInBounds_toArray, List.set_cons_zero, List.set_cons_succ]
          refine wpAnyH_done (by kernel_rfl) ?_ _
          go_wp2_with fail
          go_ret
          exact ⟨by rw [HR.out]; rfl, hbel⟩
        | true =>
          cases tx with
          | false =>
            have HR := Lib.hid (HN.out rfl)
            clear HN HY
            go_wp2_with fail
            refine wp_region_held_drew (S := fun W => W.cell? (ad.add (k * 2)) = some (.string xa) ∧ W.cell? { block := (ad.add (k * 2)).block, off := (ad.add (k * 2)).off + 1 } = some (.string xb)) (by kernel_rfl) ⟨HC0.out, HC1.out⟩ (fun hHeld => ?_)
            refine take_yes (i := 0) (v := ?_) rfl rfl (by kernel_rfl) (by kernel_rfl) (by kernel_rfl) (by rfl) (fun _ _ _ h => h) ?y11 (by assumption) ?r11
            case y11 => (intro w hSw; (try dsimp only at hSw); go_simp; try with_reducible rfl)
            try simp only [Act.put, List.setIfInBounds_toArray, List.set_cons_zero, List.set_cons_succ]
            refine take_yes (i := 1) (v := ?_) rfl rfl (by kernel_rfl) (by kernel_rfl) (by kernel_rfl) (by rfl) (fun _ _ _ h => h) ?y12 (by assumption) ?r12
            case y12 => (intro w hSw; (try dsimp only at hSw); go_simp; try with_reducible rfl)
            try simp only [Act.put, List.setIfInBounds_toArray, List.set_cons_zero, List.set_cons_succ]
            refine take_yes (i := 2) (v := ?_) rfl rfl (by kernel_rfl) (by kernel_rfl) (by kernel_rfl) (by rfl) (fun _ _ _ h => h) ?y13 (by assumption) ?r13
            case y13 => (intro w hSw; (try dsimp only at hSw); go_simp; try with_reducible rfl)
            try simp only [Act.put, List.setIfInBounds_toArray, List.set_cons_zero, List.set_cons_succ]
            refine take_yes (i := 3) (v := ?_) rfl rfl (by kernel_rfl) (by kernel_rfl) (by kernel_rfl) (by rfl) (fun _ _ _ h => h) ?y14 (by assumption) ?r14
            case y14 => (intro w hSw; (try dsimp only at hSw); go_simp; try with_reducible rfl)
            try simp only [Act.put, List.setIfInBounds_toArray, List.set_cons_zero, List.set_cons_succ]
            refine take_yes (i := 4) (v := ?_) rfl rfl (by kernel_rfl) (by kernel_rfl) (by kernel_rfl) (by rfl) (fun _ _ _ h => h) ?y15 (by assumption) ?r15
            case y15 => (intro w hSw; (try dsimp only at hSw); go_simp; try with_reducible rfl)
            try simp only [Act.put, List.setIfInBounds_toArray, List.set_cons_zero, List.set_cons_succ]
            refine wpAnyH_ready (rs := [5]) (by kernel_rfl) (by simp) (AllReadyH.cons rfl (fun K hK => ?_) AllReadyH.nil)
            go_simp
            go_at_call 72
            refine (CK.out _).mono ?_
            rintro e w1 ⟨rfl, rfl⟩
            go_wp2_with fail
            refine hK.out _ _ (⟨HC0.out, HC1.out⟩) (fun hHeld => ?_)
            clear hK
            try simp only [Act.put, List.setIfInBounds_toArray, List.set_cons_zero, List.set_cons_succ]
            refine take_yes (i := 6) (v := ?_) rfl rfl (by kernel_rfl) (by kernel_rfl) (by kernel_rfl) (by rfl) (fun _ _ _ h => h) ?y16 (by assumption) ?r16
            case y16 => (intro w hSw; (try dsimp only at hSw); go_simp; try with_reducible rfl)
            try simp only [Act.put, List.setIfInBounds_toArray, List.set_cons_zero, List.set_cons_succ]
            refine take_yes (i := 7) (v := ?_) rfl rfl (by kernel_rfl) (by kernel_rfl) (by kernel_rfl) (by rfl) (fun _ _ _ h => h) ?y17 (by assumption) ?r17
            case y17 => (intro w hSw; (try dsimp only at hSw); go_simp; try with_reducible rfl)
            try simp only [Act.put, List.setIfInBounds_toArray, List.set_cons_zero, List.set_cons_succ]
            refine take_yes (i := 8) (v := ?_) rfl rfl (by kernel_rfl) (by kernel_rfl) (by kernel_rfl) (by rfl) (fun _ _ _ h => h) ?y18 (by assumption) ?r18
            case y18 => (intro w hSw; (try dsimp only at hSw); go_simp; try with_reducible rfl)
            try simp only [Act.put, List.setIfInBounds_toArray, List.set_cons_zero, List.set_cons_succ]
            refine take_yes (i := 9) (v := ?_) rfl rfl (by kernel_rfl) (by kernel_rfl) (by kernel_rfl) (by rfl) (fun _ _ _ h => h) ?y19 (by assumption) ?r19
            case y19 => (intro w hSw; (try dsimp only at hSw); go_simp; try with_reducible rfl)
            try simp only [Act.put, List.setIfInBounds_toArray, List.set_cons_zero, List.set_cons_succ]
            refine take_yes (i := 10) (v := ?_) rfl rfl (by kernel_rfl) (by kernel_rfl) (by kernel_rfl) (by rfl) (fun _ _ _ h => h) ?y20 (by assumption) ?r20
            case y20 => (intro w hSw; (try dsimp only at hSw); go_simp; try with_reducible rfl)
            try simp only [Act.put, List.setIfInBounds_toArray, List.set_cons_zero, List.set_cons_succ]
            refine take_yes (i := 11) (v := ?_) rfl rfl (by kernel_rfl) (by kernel_rfl) (by kernel_rfl) (by rfl) (fun _ _ _ h => h) ?y21 (by assumption) ?r21
            case y21 => (intro w hSw; (try dsimp only at hSw); go_simp; try with_reducible rfl)
            try simp only [Act.put, List.setIfInBounds_toArray, List.set_cons_zero, List.set_cons_succ]
            refine take_yes (i := 12) (v := ?_) rfl rfl (by kernel_rfl) (by kernel_rfl) (by kernel_rfl) (by rfl) (fun _ _ _ h => h) ?y22 (by assumption) ?r22
            case y22 => (intro w hSw; (try dsimp only at hSw); go_simp; try with_reducible rfl)
            try simp only [Act.put, List.setIfInBounds_toArray, List.set_cons_zero, List.set_cons_succ]
            refine wpAnyH_ready (rs := [13]) (by kernel_rfl) (by simp) (AllReadyH.cons rfl (fun K hK => ?_) AllReadyH.nil)
            go_simp
            go_at_call 81
            refine (CX.out _).mono ?_
            rintro e w1 ⟨rfl, rfl⟩
            go_wp2_with fail
            refine hK.out _ _ (⟨HC0.out, HC1.out⟩) (fun hHeld => ?_)
            clear hK
            try simp only [Act.put, List.setIfInBounds_toArray, List.set_cons_zero, List.set_cons_succ]
            refine take_yes (i := 14) (v := ?_) rfl rfl (by kernel_rfl) (by kernel_rfl) (by kernel_rfl) (by rfl) (fun _ _ _ h => h) ?y23 (by assumption) ?r23
            case y23 => (intro w hSw; (try dsimp only at hSw); go_simp; try with_reducible rfl)
            try simp only [Act.put, List.setIfInBounds_toArray, List.set_cons_zero, List.set_cons_succ]
            refine take_yes (i := 15) (v := ?_) rfl rfl (by kernel_rfl) (by kernel_rfl) (by kernel_rfl) (by rfl) (fun _ _ _ h => h) ?y24 (by assumption) ?r24
            case y24 => (intro w hSw; (try dsimp only at hSw); go_simp; try with_reducible rfl)
            try simp only [Act.put, List.setIfInBounds_toArray, List.set_cons_zero, List.set_cons_succ]
            refine take_yes (i := 16) (v := ?_) rfl rfl (by kernel_rfl) (by kernel_rfl) (by kernel_rfl) (by rfl) (fun _ _ _ h => h) ?y25 (by assumption) ?r25
            case y25 => (intro w hSw; (try dsimp only at hSw); go_simp; try with_reducible rfl)
            try simp only [Act.put, List.setIfInBounds_toArray, List.set_cons_zero, List.set_cons_succ]
            refine take_not (i := 17) rfl rfl (by kernel_rfl) (by kernel_rfl) (by kernel_rfl) (by rfl) (fun _ _ _ h => h) (by assumption) ?_
            try simp only [Act.put, List.setIfInBounds_toArray, List.set_cons_zero, List.set_cons_succ]
            refine take_not (i := 18) rfl rfl (by kernel_rfl) (by kernel_rfl) (by kernel_rfl) (by rfl) (fun _ _ _ h => h) (by assumption) ?_
            try simp only [Act.put, List.setIfInBounds_toArray, List.set_cons_zero, List.set_cons_succ]
            refine take_not (i := 19) rfl rfl (by kernel_rfl) (by kernel_rfl) (by kernel_rfl) (by rfl) (fun _ _ _ h => h) (by assumption) ?_
            try simp only [Act.put, List.setIfInBounds_toArray, List.set_cons_zero, List.set_cons_succ]
            refine take_not (i := 20) rfl rfl (by kernel_rfl) (by kernel_rfl) (by kernel_rfl) (by rfl) (fun _ _ _ h => h) (by assumption) ?_
            try simp only [Act.put, List.setIfInBounds_toArray, List.set_cons_zero, List.set_cons_succ]
            refine take_not (i := 21) rfl rfl (by kernel_rfl) (by kernel_rfl) (by kernel_rfl) (by rfl) (fun _ _ _ h => h) (by assumption) ?_
            try simp only [Act.put, List.setIfInBounds_toArray, List.set_cons_zero, List.set_cons_succ]
            refine take_not (i := 22) rfl rfl (by kernel_rfl) (by kernel_rfl) (by kernel_rfl) (by rfl) (fun _ _ _ h => h) (by assumption) ?_
            try simp only [Act.put, List.setIfInBounds_toArray, List.set_cons_zero, List.set_cons_succ]
            refine take_not (i := 23) rfl rfl (by kernel_rfl) (by kernel_rfl) (by kernel_rfl) (by rfl) (fun _ _ _ h => h) (by assumption) ?_
            try simp only [Act.put, List.setIfInBounds_toArray, List.set_cons_zero, List.set_cons_succ]
            refine take_not (i := 24) rfl rfl (by kernel_rfl) (by kernel_rfl) (by kernel_rfl) (by rfl) (fun _ _ _ h => h) (by assumption) ?_
            try simp only [Act.put, List.setIfInBounds_toArray, List.set_cons_zero, List.set_cons_succ]
            refine take_not (i := 25) rfl rfl (by kernel_rfl) (by kernel_rfl) (by kernel_rfl) (by rfl) (fun _ _ _ h => h) (by assumption) ?_
            try simp only [Act.put, List.setIfInBounds_toArray, List.set_cons_zero, List.set_cons_succ]
            refine take_not (i := 26) rfl rfl (by kernel_rfl) (by kernel_rfl) (by kernel_rfl) (by rfl) (fun _ _ _ h => h) (by assumption) ?_
            try simp only [Act.put, List.setIfInBounds_toArray, List.set_cons_zero, List.set_cons_succ]
            refine take_not (i := 27) rfl rfl (by kernel_rfl) (by kernel_rfl) (by kernel_rfl) (by rfl) (fun _ _ _ h => h) (by assumption) ?_
            try simp only [Act.put, List.setIfInBounds_toArray, List.set_cons_zero, List.set_cons_succ]
            refine take_not (i := 28) rfl rfl (by kernel_rfl) (by kernel_rfl) (by kernel_rfl) (by rfl) (fun _ _ _ h => h) (by assumption) ?_
            try simp only [Act.put, List.setIfInBounds_toArray, List.set_cons_zero, List.set_cons_succ]
            refine take_yes (i := 29) (v := ?_) rfl rfl (by kernel_rfl) (by kernel_rfl) (by kernel_rfl) (by rfl) (fun _ _ _ h => h) ?y26 (by assumption) ?r26
            case y26 => (intro w hSw; (try dsimp only at hSw); go_simp; try with_reducible rfl)
            try simp only [Act.put, List.setIfInBounds_toArray, List.set_cons_zero, List.set_cons_succ]
            refine wpAnyH_done (by kernel_rfl) ?_ _
            go_wp2_with fail
            go_ret
            exact ⟨by rw [HR.out]; rfl, hbel⟩
          | true =>
            have both : ∀ t : Bool, t = true ∨ t = false := fun t => by cases t <;> simp
            rcases both (S.toList == xb.toList) with hS | hS
            · have HR := Lib.hid (HY.out (by rw [hS]; rfl))
              clear HN HY
              go_wp2_with fail
              go_region_held3 (fun W => W.cell? (ad.add (k * 2)) = some (.string xa) ∧ W.cell? { block := (ad.add (k * 2)).block, off := (ad.add (k * 2)).off + 1 } = some (.string xb)) (exact ⟨HC0.out, HC1.out⟩) (first
                | (go_at_call 72; refine (CK.out _).mono ?_; rintro e w1 ⟨rfl, rfl⟩)
                | (go_at_call 81; refine (CX.out _).mono ?_; rintro e w1 ⟨rfl, rfl⟩)
                | (go_at_call 107; refine (CM.out _).mono ?_; rintro e w1 ⟨rfl, rfl⟩))
              go_wp2_with fail
              go_roundw
              case rel => exact ⟨k + 1, by omega, by go_num, HR, hbel⟩
              case measure => simp [intOf]; omega
            · have HR := Lib.hid (HN.out (by rw [hS]; rfl))
              clear HN HY
              go_wp2_with fail
              go_region_held3 (fun W => W.cell? (ad.add (k * 2)) = some (.string xa) ∧ W.cell? { block := (ad.add (k * 2)).block, off := (ad.add (k * 2)).off + 1 } = some (.string xb)) (exact ⟨HC0.out, HC1.out⟩) (first
                | (go_at_call 72; refine (CK.out _).mono ?_; rintro e w1 ⟨rfl, rfl⟩)
                | (go_at_call 81; refine (CX.out _).mono ?_; rintro e w1 ⟨rfl, rfl⟩)
                | (go_at_call 107; refine (CM.out _).mono ?_; rintro e w1 ⟨rfl, rfl⟩))
              go_wp2_with fail
              go_ret
              exact ⟨by rw [HR.out]; rfl, hbel⟩
      · have HF : Hid (R = if L.any lngF then 4 else 0) := by
          have := hf.out
          rw [List.take_of_length_le (by omega)] at this
          show _ = _
          rw [HRR.out, if_neg (by rw [this]; simp)]
        clear hf
        go_wp2_with fail
        go_loopw [4] (fun i wi => ∃ k : Nat, k ≤ L.length ∧ i = .int .i64 k ∧ Hid ((L.take k).any lngF = false) ∧ Below w.heap.size w wi) (fun i _ => L.length - (intOf i).toNat)
        case atStart => exact ⟨0, Nat.zero_le _, rfl, rfl, hbel⟩
        case round =>
          obtain ⟨k, hk, rfl, hf, hbel⟩ := hrel
          by_cases hlt : k < L.length
          · obtain ⟨ad, rfl, hc⟩ := h.at_ (by omega)
            obtain ⟨hc0, hc1⟩ := hc k L[k] (List.getElem?_eq_getElem hlt)
            have hbd := hB _ (List.getElem_mem hlt)
            have HN : Hid (lngF L[k] = true → R = 4) := fun hh => by
              rw [HF.out, if_pos (List.any_eq_true.2 ⟨L[k], List.getElem_mem hlt, hh⟩)]
            have HY : Hid (lngF L[k] = false → (L.take (k + 1)).any lngF = false) := fun hh => by
              rw [take_fd L k hlt, List.any_append, hf.out]; simp [hh]
            generalize L[k] = x at *
            obtain ⟨xa, xb⟩ := x
            have HC0 : Hid (wr.drew.cell? (ad.add (k * 2)) = some (.string xa)) := cell_kept hbel.drew hc0
            have HC1 : Hid (wr.drew.cell? { block := (ad.add (k * 2)).block, off := (ad.add (k * 2)).off + 1 } = some (.string xb)) := fd_snd (cell_kept hbel.drew hc1)
            have hP : lngF (xa, xb) = decide (8192 < xa.size + 2 + xb.size) := rfl
            rw [hP] at HN HY
            obtain ⟨b1, b2⟩ := hbd
            simp only at b1 b2
            have hw1 : IntKind.i64.wrap ((xa.size : Int) + (xb.size : Int)) = (xa.size : Int) + (xb.size : Int) := by rw [IntKind.wrap_i64]; omega
            have hw2 : IntKind.i64.wrap ((xa.size : Int) + (xb.size : Int) + 2) = (xa.size : Int) + (xb.size : Int) + 2 := by rw [IntKind.wrap_i64]; omega
            have hi0 : (0 : Int) ≤ (k : Int) := by omega
            have hi1 : (k : Int) < (L.length : Int) := by omega
            have hbel := hbel.drew
            clear hc hc0 hc1 hP hf
            by_cases hg : (8192 : Int) < (xa.size : Int) + (xb.size : Int) + 2
            · have HR := Lib.hid (HN.out (decide_eq_true (by omega)))
              clear HN HY
              go_wp2_with fail
              go_region_held3 (fun W => W.cell? (ad.add (k * 2)) = some (.string xa) ∧ W.cell? { block := (ad.add (k * 2)).block, off := (ad.add (k * 2)).off + 1 } = some (.string xb)) (exact ⟨HC0.out, HC1.out⟩) (fail)
              go_wp2_with fail
              go_ret
              exact ⟨by rw [HR.out]; rfl, hbel⟩
            · have HR := Lib.hid (HY.out (decide_eq_false (by omega)))
              clear HN HY
              go_wp2_with fail
              go_region_held3 (fun W => W.cell? (ad.add (k * 2)) = some (.string xa) ∧ W.cell? { block := (ad.add (k * 2)).block, off := (ad.add (k * 2)).off + 1 } = some (.string xb)) (exact ⟨HC0.out, HC1.out⟩) (fail)
              clear hw1 hw2
              go_wp2_with fail
              go_roundw
              case rel => exact ⟨k + 1, by omega, by go_num, HR, hbel⟩
              case measure => simp [intOf]; omega
          · have HR : Hid (R = 0) := by
              have := hf.out
              rw [List.take_of_length_le (by omega)] at this
              show _ = _
              rw [HF.out, if_neg (by rw [this]; simp)]
            clear hf
            go_wp2_with fail
            go_ret
            exact ⟨by rw [HR.out]; rfl, hbel⟩

end Go.Proofs.YtjcomlklmfeimaaGreatDoor
end

/-
  Contracts of the reference's head and rows (layer 12).
-/
section
namespace Go.Proofs.YtjcomlklmfeimaaGreatDoor
open Go.RowKit

/-- A line's end at k, looked for from f on. -/
theorem end_line {s : ByteArray} {f k : Nat} (h : endV s f = (k : Int)) (hf : f ≤ s.size) : ∃ ln r, lineL (s.data.toList.drop f) = some (ln, r) ∧ f + ln.length = k ∧ s.extract f k = mkS ln ∧ r = s.data.toList.drop (k + 2) := by
  unfold endV at h
  cases e : lineL (s.data.toList.drop f) with
  | none => rw [e] at h; simp at h
  | some p =>
    obtain ⟨ln, r⟩ := p
    rw [e] at h
    have hk : f + ln.length = k := by simp at h; omega
    obtain ⟨h1, h2, h3⟩ := line_at e hf
    rw [hk] at h2 h3
    exact ⟨ln, r, rfl, hk, h2, h3⟩
theorem end_none {s : ByteArray} {f : Nat} (h : endV s f = -1) : lineL (s.data.toList.drop f) = none := by
  unfold endV at h
  cases e : lineL (s.data.toList.drop f) with
  | none => rfl
  | some p => rw [e] at h; simp at h; omega
theorem hdr_none {F : Nat} {X : List (List UInt8)} {l : List UInt8} (h : lineL l = none) : hdr F X l = none := by
  cases F with
  | zero => rfl
  | succ F => unfold hdr; rw [h]
theorem hdr_some {F : Nat} {X : List (List UInt8)} {l ln r : List UInt8} (h : lineL l = some (ln, r)) (hF : 0 < F) : hdr F X l = if ln = [] then some (X, r) else hdr (F - 1) (X ++ [ln]) r := by
  obtain ⟨F, rfl⟩ : ∃ G, F = G + 1 := ⟨F - 1, by omega⟩
  conv => lhs; unfold hdr
  rw [h]; rfl

set_option maxHeartbeats 8000000 in
set_option maxRecDepth 100000 in
theorem r_head (s : ByteArray) (w : World) (hs : s.size ≤ 1000000) :
    Calls Tryz.prog 34 #[.string s] w fun e w' => ∃ A c, e = .returned (.tuple #[.slice A (hdL s).length c, .string (hdR s), .bool (hdB s)]) ∧ SlS w' A (hdL s).length c (hdL s) ∧ Head w' A ∧ Below w.heap.size w w' := by
  have HNO := Lib.hid (fun h => hd_none (s := s) h)
  have HYE := Lib.hid (fun X r h => hd_some (s := s) (X := X) (r := r) h)
  have hD : hdO s = hdr (s.size + 1) [] s.data.toList := rfl
  generalize hdO s = D at *
  generalize hdL s = RL at *
  generalize hdR s = RR at *
  generalize hdB s = RB at *
  have HD0 := Lib.hid hD
  clear hD
  go_enter Tryz.func34, Tryz.ntmps34
  go_wp2_with fail
  go_loopw [5, 6, 7] (fun v a i wr => ∃ (f k F : Nat) (X : List (List UInt8)), f ≤ k ∧ k ≤ s.size ∧ a = .int .i64 (f : Int) ∧ i = .int .i64 (k : Int) ∧ s.size + 1 ≤ F + f ∧ X.length ≤ f ∧ Hid (OwnS wr w.heap.size 9 v X) ∧ Hid (D = hdr F X (s.data.toList.drop f)) ∧ Hid (endV s f = endV s k) ∧ Below w.heap.size w wr) (fun _ _ i _ => s.size + 1 - (intOf i).toNat)
  case atStart => exact ⟨0, 0, s.size + 1, [], Nat.le_refl _, Nat.zero_le _, rfl, rfl, by omega, Nat.zero_le _, OwnS.nil _ _ _, HD0.out, rfl, Below.refl _ _⟩
  case round =>
    obtain ⟨f, k, F, X, hfk, hk, rfl, rfl, hF, hX, hown, hd, he, hbel⟩ := hrel
    clear HD0
    by_cases hlt : k + 1 < s.size
    · have hi0 : (0 : Int) ≤ (k : Int) := by omega
      have hi1 : (k : Int) < (s.size : Int) := by omega
      have hi2 : (k : Int) + 1 < (s.size : Int) := by omega
      have hi3 : (0 : Int) ≤ (k : Int) + 1 := by omega
      have hk0 : k < s.size := by omega
      have htn : ((k : Int) + 1).toNat = k + 1 := by omega
      by_cases h1 : (s[k].toNat : Int) = 13
      · by_cases h2 : (s[k + 1].toNat : Int) = 10
        · have e1 : ((s[k].toNat : Int) == 13) = true := by rw [h1]; rfl
          have e2 : ((s[k + 1].toNat : Int) == 10) = true := by rw [h2]; rfl
          have hend : endV s f = k := by
            rw [he.out]
            exact endV_hit s k hlt (by rw [← UInt8.toNat_inj]; show s[k].toNat = 13; omega) (by rw [← UInt8.toNat_inj]; show s[k + 1].toNat = 10; omega)
          obtain ⟨ln, r, hl, hkl, hx, hr⟩ := end_line hend (by omega)
          have hst := hdr_some (F := F) (X := X) hl (by omega)
          by_cases hz : k = f
          · subst hz
            have hln : ln = [] := List.eq_nil_of_length_eq_zero (by omega)
            have hD2 : D = some (X, r) := by rw [hd.out, hst, if_pos hln]
            obtain ⟨g1, g2, g3⟩ := HYE.out X r hD2
            have hx2 : s.extract (k + 2) s.size = RR := by
              rw [g2, hr, ← mkS_self (s.extract (k + 2) s.size), piece_ext, mkS_list]
              congr 1
              unfold piece
              rw [List.take_of_length_le (by rw [List.length_drop, ← Lib.size_eq]; omega)]
            have HR := Lib.hid g1
            have HRB := Lib.hid g3
            have HX2 := Lib.hid hx2
            obtain ⟨A, c, hv, hA, hH⟩ := hown.out.sls
            subst hv
            have hi4 : (k : Int) + 2 ≤ (s.size : Int) := by omega
            have hi5 : (0 : Int) ≤ (k : Int) + 2 := by omega
            have htn2 : ((k : Int) + 2).toNat = k + 2 := by omega
            have hA := Lib.hid hA
            have hH := Lib.hid hH
            clear hown hd he hend hl hkl hx hr hst hD2 g1 g2 g3 hx2 hln HNO HYE
            go_wp2_with fail
            go_quiet (fail)
            go_wp2
            go_ret3
            have hq := below_drewN (Below.refl wr.heap.size wr) nq
            subst HR
            exact ⟨A, c, by rw [HX2.out, HRB.out]; rfl, hA.out.below hq, hH.out.below hq, below_drewN hbel _⟩
          · have hz1 : ((k : Int) == (f : Int)) = false := by rw [beq_eq_false_iff_ne]; omega
            have hln : ln ≠ [] := fun h => hz (by rw [h] at hkl; exact hkl.symm)
            have HD2 : Hid (D = hdr (F - 1) (X ++ [ln]) (s.data.toList.drop (k + 2))) := by
              show _ = _
              rw [hd.out, hst, if_neg hln, hr]
            have HX2 : Hid ((s.extract f k).data.toList = ln) := by show _ = _; rw [hx, mkS_list]
            have hxl : (X ++ [ln]).length ≤ k + 2 := by rw [List.length_append, List.length_singleton]; omega
            have hj0 : (f : Int) ≤ (k : Int) := by omega
            have hj1 : (k : Int) ≤ (s.size : Int) := by omega
            have hj2 : (0 : Int) ≤ (f : Int) := by omega
            have hs4 := hbel.size
            clear hd he hend hl hkl hx hr hst hln HNO HYE
            go_wp2_with (at_builtin; refine wpList_append_sls rfl _ _ _ rfl w.heap.size 9 Tryz.underlying57 (by kernel_rfl) _ rfl X (hown.out.alloc _) _ _ _ rfl [ln] (by rw [← HX2.out]; exact SlS.textAt _ _ _ rfl) (by simp; omega) (by simp; omega) w (hbel.alloc hs4 _) ?_; intro v1 w2 ho2 hb2 hz2)
            go_roundw
            case rel => exact ⟨k + 2, k + 2, F - 1, X ++ [ln], Nat.le_refl _, by omega, by go_num, by go_num, by omega, hxl, ho2, HD2, rfl, hb2⟩
            case measure => simp [intOf]; omega
        · have e1 : ((s[k].toNat : Int) == 13) = true := by rw [h1]; rfl
          have e2 : ((s[k + 1].toNat : Int) == 10) = false := by simpa using h2
          have HE : Hid (endV s f = endV s (k + 1)) := by
            show _ = _
            rw [he.out]
            exact endV_step s k hlt (fun h => h2 (by rw [h.2]; rfl))
          clear he HNO HYE
          go_wp2_with fail
          go_roundw
          case rel => exact ⟨f, k + 1, F, X, by omega, by omega, rfl, by go_num, hF, hX, hown, hd, HE, hbel⟩
          case measure => simp [intOf]; omega
      · have e1 : ((s[k].toNat : Int) == 13) = false := by simpa using h1
        have HE : Hid (endV s f = endV s (k + 1)) := by
          show _ = _
          rw [he.out]
          exact endV_step s k hlt (fun h => h1 (by rw [h.1]; rfl))
        clear he HNO HYE
        go_wp2_with fail
        go_roundw
        case rel => exact ⟨f, k + 1, F, X, by omega, by omega, rfl, by go_num, hF, hX, hown, hd, HE, hbel⟩
        case measure => simp [intOf]; omega
    · have hnn : D = none := by
        rw [hd.out]
        exact hdr_none (end_none (by rw [he.out]; exact endV_end s k (by omega)))
      obtain ⟨g1, g2, g3⟩ := HNO.out hnn
      have hi2 : ¬ (k : Int) + 1 < (s.size : Int) := by omega
      clear hd he hnn HNO HYE
      subst g1 g2 g3
      go_wp2_with fail
      go_ret3
      exact ⟨none, 0, rfl, SlS.none_ _, Head.none_ _, hbel⟩

/-! ### rows -/
theorem flX_code (s : ByteArray) : flX s = 0 ∨ flX s = 4 ∨ flX s = 21 := by
  unfold flX
  split
  · exact .inr (.inl rfl)
  · split
    · exact .inl rfl
    · exact .inr (.inr rfl)
theorem flF_le (s : ByteArray) : (flF s).1.size ≤ s.size ∧ (flF s).2.size ≤ s.size := by
  unfold flF
  split
  · exact ⟨Nat.zero_le _, Nat.zero_le _⟩
  · split
    · exact flT_le s
    · exact ⟨Nat.zero_le _, Nat.zero_le _⟩
theorem fsE_step {L : List (List UInt8)} {k : Nat} (h : k < L.length) : fsE (L.drop k) = if flX (mkS L[k]) = 0 then fsE (L.drop (k + 1)) else flX (mkS L[k]) := by
  rw [List.drop_eq_getElem_cons h]; rfl

set_option maxHeartbeats 8000000 in
set_option maxRecDepth 100000 in
theorem r_rows (A : Option Addr) (n c : Nat) (L : List (List UInt8)) (w : World) (h : SlS w A n c L) (hn : n ≤ 100000000) (hz : ∀ x ∈ L, x.length ≤ 1000000) :
    Calls Tryz.prog 36 #[.slice A n c] w fun e w' => ∃ A' c', e = .returned (.tuple #[.slice A' (rwF L).length c', .int .i64 (rwE L)]) ∧ SlF w' A' (rwF L).length c' (rwF L) ∧ Below w.heap.size w w' := by
  have hlen := h.len
  subst hlen
  by_cases hl : 64 < L.length
  · have h1 : rwE L = 4 := by unfold rwE; rw [if_pos hl]
    have h2 : rwF L = [] := by unfold rwF; rw [h1]; rfl
    have HR := Lib.hid h1
    have hl' : (64 : Int) < (L.length : Int) := by omega
    rw [h2]
    clear h1 h2
    go_enter Tryz.func36, Tryz.ntmps36
    go_wp2_with fail
    go_ret2
    exact ⟨none, 0, by rw [HR.out]; rfl, SlF.none_ _, Below.refl _ _⟩
  · have hE : rwE L = fsE L := by unfold rwE; rw [if_neg hl]
    have hNo : rwE L ≠ 0 → rwF L = [] := fun h => by unfold rwF; rw [if_neg h]
    have hYes : rwE L = 0 → rwF L = L.map (fun x => flF (mkS x)) := fun h => by unfold rwF; rw [if_pos h]
    have hl' : ¬ (64 : Int) < (L.length : Int) := by omega
    generalize rwE L = E at *
    generalize rwF L = RF at *
    have HE := Lib.hid hE
    have HNO := Lib.hid hNo
    have HYE := Lib.hid hYes
    clear hE hNo hYes hl
    go_enter Tryz.func36, Tryz.ntmps36
    go_wp2_with fail
    go_loopw [4, 5] (fun v i wr => ∃ k : Nat, k ≤ L.length ∧ i = .int .i64 (k : Int) ∧ Hid (OwnF wr w.heap.size 105 v ((L.take k).map fun x => flF (mkS x))) ∧ Hid (E = fsE (L.drop k)) ∧ Below w.heap.size w wr) (fun _ i _ => L.length - (intOf i).toNat)
    case atStart => exact ⟨0, Nat.zero_le _, rfl, OwnF.nil _ _ _, HE.out, Below.refl _ _⟩
    case round =>
      obtain ⟨k, hk, rfl, hown, he, hbel⟩ := hrel
      by_cases hlt : k < L.length
      · obtain ⟨ad, rfl, hc⟩ := h.at_ (by omega)
        have hcell := cell_kept hbel (hc k L[k] (List.getElem?_eq_getElem hlt))
        have hst := fsE_step hlt
        have hsz := hz _ (List.getElem_mem hlt)
        have hfl := flF_le (mkS L[k])
        rw [mkS_size] at hfl
        have HT : Hid ((L.take (k + 1)).map (fun x => flF (mkS x)) = (L.take k).map (fun x => flF (mkS x)) ++ [flF (mkS L[k])]) := by
          show _ = _
          rw [take_list L k hlt, List.map_append]; rfl
        have hxl : ((L.take k).map fun x => flF (mkS x)).length ≤ k := by rw [List.length_map, List.length_take]; omega
        generalize hX : ((L.take k).map fun x => flF (mkS x)) = X at *
        have hms : (mkS L[k]).size ≤ maxLen := by rw [mkS_size]; have : (1000000 : Nat) ≤ maxLen := by decide
                                                  omega
        have CP := Lib.hid (fun W => rf_parse (mkS L[k]) W hms)
        have hcode := flX_code (mkS L[k])
        generalize flF (mkS L[k]) = fd at *
        generalize flX (mkS L[k]) = fx at *
        generalize mkS L[k] = ms at *
        obtain ⟨fa, fb⟩ := fd
        have hfa : fa.size ≤ maxLen ∧ fb.size ≤ maxLen := by
          have : (1000000 : Nat) ≤ maxLen := by decide
          exact ⟨by have := hfl.1; simp only at this; omega, by have := hfl.2; simp only at this; omega⟩
        unfold fdV at CP
        have hi0 : (0 : Int) ≤ (k : Int) := by omega
        have hi1 : (k : Int) < (L.length : Int) := by omega
        have hs4 := hbel.size
        clear hc hX hfl hsz hms
        by_cases hx0 : fx = 0
        · have HE2 : Hid (E = fsE (L.drop (k + 1))) := by show _ = _; rw [he.out, hst, if_pos hx0]
          subst hx0
          clear he hst hcode HNO HYE HE
          go_wp2_with fail
          refine (CP.out _).mono ?_
          rintro e w1 ⟨rfl, hb1⟩
          have HO := Lib.hid (hown.out.below hb1)
          have HB := Lib.hid (hbel.trans (hb1.mono hs4))
          have hs5 := HB.out.size
          have hsl : SlF ((w1.alloc (.cells #[.string fa, .string fb] 105)).alloc (.cells #[.string fa, .string fb] 105)) (some ⟨w1.heap.size + 1, 0, none⟩) 1 1 [(fa, fb)] := by
            have := SlF.one (w1.alloc (.cells #[.string fa, .string fb] 105)) 105 (fa, fb) hfa
            rwa [show (w1.alloc (.cells #[.string fa, .string fb] 105)).heap.size = w1.heap.size + 1 by simp] at this
          have HSL := Lib.hid hsl
          clear hb1 hown hsl
          go_wp2_with (at_builtin; refine wpList_append_slf rfl _ _ _ rfl w.heap.size 105 Tryz.underlying23 (by kernel_rfl) _ rfl X ((HO.out.alloc _).alloc _) _ _ _ rfl [(fa, fb)] HSL.out (by simp; omega) (by simp; omega) w ((HB.out.alloc hs5 _).alloc (by simp; omega) _) ?_; intro v1 w2 ho2 hb2 hz2)
          go_roundw
          case rel => exact ⟨k + 1, by omega, by go_num, by show OwnF _ _ _ _ _; rw [HT.out]; exact ho2.out, HE2, hb2⟩
          case measure => simp [intOf]; omega
        · have hE2 : E = fx := by rw [he.out, hst, if_neg hx0]
          have HR := Lib.hid (HNO.out (by rw [hE2]; exact hx0))
          have HE2 := Lib.hid hE2
          clear he hst hE2 HNO HYE HE
          go_wp2_with fail
          refine (CP.out _).mono ?_
          rintro e w1 ⟨rfl, hb1⟩
          have HB := Lib.hid (hbel.trans (hb1.mono hs4))
          have hs5 := HB.out.size
          go_wp2_with fail
          go_ret2
          exact ⟨none, 0, by rw [HR.out, HE2.out]; rfl, by rw [HR.out]; exact SlF.none_ _, HB.out.alloc hs5 _⟩
      · have hE2 : E = 0 := by rw [he.out, List.drop_eq_nil_of_le (by omega)]; rfl
        have hR := HYE.out hE2
        have hT : (L.take k).map (fun x => flF (mkS x)) = RF := by rw [hR, List.take_of_length_le (by omega)]
        rw [hT] at hown
        have HE2 := Lib.hid hE2
        have hsz : ∀ x ∈ RF, x.1.size ≤ maxLen ∧ x.2.size ≤ maxLen := fun x hx => by
          rw [hR] at hx
          obtain ⟨y, hy, rfl⟩ := List.mem_map.1 hx
          have h1 := flF_le (mkS y)
          rw [mkS_size] at h1
          have h2 := hz y hy
          have : (1000000 : Nat) ≤ maxLen := by decide
          exact ⟨by omega, by omega⟩
        obtain ⟨A2, c2, hv, hA⟩ := hown.out.slf hsz
        subst hv
        have hA := Lib.hid hA
        have hi1 : ¬ (k : Int) < (L.length : Int) := by omega
        clear he hE2 hR hT HNO HYE HE hown hsz
        go_wp2_with fail
        go_ret2
        exact ⟨A2, c2, by rw [HE2.out]; rfl, hA.out, hbel⟩

end Go.Proofs.YtjcomlklmfeimaaGreatDoor
end

/-
  Contracts of the reference's host, length, body, framing (layer 12).
-/
section
namespace Go.Proofs.YtjcomlklmfeimaaGreatDoor
open Go.RowKit

theorem hoS_le : hoS.size ≤ maxLen := by decide
set_option maxRecDepth 100000 in
theorem r_host (A : Option Addr) (n c : Nat) (L : List Fd) (v : Int) (w : World) (h : SlF w A n c L) (hn : n ≤ 100000000) :
    Calls Tryz.prog 37 #[.slice A n c, .int .i64 v] w fun e w' => e = .returned (.bool (hoB L v)) ∧ Below w.heap.size w w' := by
  have C := Lib.hid (rf_all A n c L hoS w h hn hoS_le)
  have hD : hoB L v = (decide ((fdAll L hoS).length = 1) || (decide ((fdAll L hoS).length = 0) && decide (v = 0))) := rfl
  generalize hoB L v = R at *
  generalize fdAll L hoS = X at *
  unfold hoS at C
  clear h hn
  by_cases h1 : X.length = 1
  · have HR : Hid (R = true) := by show _ = _; rw [hD, h1]; rfl
    have e1 : ((X.length : Int) == 1) = true := by rw [h1]; rfl
    clear hD h1
    go_enter Tryz.func37, Tryz.ntmps37
    go_wp2_with fail
    refine C.out.mono ?_
    rintro e w1 ⟨A2, c2, rfl, _, _, hb⟩
    go_wp2_with fail
    go_ret
    exact ⟨by rw [HR.out]; rfl, hb⟩
  · have e1 : ((X.length : Int) == 1) = false := by rw [beq_eq_false_iff_ne]; omega
    by_cases h0 : X.length = 0
    · have e0 : ((X.length : Int) == 0) = true := by rw [h0]; rfl
      by_cases hv : v = 0
      · have HR : Hid (R = true) := by show _ = _; rw [hD, h0, hv]; rfl
        clear hD h1 h0
        subst hv
        go_enter Tryz.func37, Tryz.ntmps37
        go_wp2_with fail
        refine C.out.mono ?_
        rintro e w1 ⟨A2, c2, rfl, _, _, hb⟩
        go_wp2_with fail
        go_ret
        exact ⟨by rw [HR.out]; rfl, hb⟩
      · have HR : Hid (R = false) := by show _ = _; rw [hD, h0, decide_eq_false hv]; rfl
        have ev : (v == 0) = false := by simpa using hv
        clear hD h1 h0
        go_enter Tryz.func37, Tryz.ntmps37
        go_wp2_with fail
        refine C.out.mono ?_
        rintro e w1 ⟨A2, c2, rfl, _, _, hb⟩
        go_wp2_with fail
        go_ret
        exact ⟨by rw [HR.out]; rfl, hb⟩
    · have e0 : ((X.length : Int) == 0) = false := by rw [beq_eq_false_iff_ne]; omega
      have HR : Hid (R = false) := by show _ = _; rw [hD, decide_eq_false h1, decide_eq_false h0]; rfl
      clear hD
      go_enter Tryz.func37, Tryz.ntmps37
      go_wp2_with fail
      refine C.out.mono ?_
      rintro e w1 ⟨A2, c2, rfl, _, _, hb⟩
      go_wp2_with fail
      go_ret
      exact ⟨by rw [HR.out]; rfl, hb⟩

/-! ### length -/
theorem lnV_bad {n : Int} {V : List (List UInt8)} {k : Nat} (h : k < V.length) (hs : splE V[k] ≠ 0) : lnV n (V.drop k) = none := by
  rw [List.drop_eq_getElem_cons h]
  have : splitL V[k] = none := by
    unfold splE at hs
    cases e : splitL V[k] with
    | none => rfl
    | some L => rw [e] at hs; simp at hs
  unfold lnV
  rw [this]
theorem lnV_step {n : Int} {V : List (List UInt8)} {k : Nat} (h : k < V.length) (hs : splE V[k] = 0) : lnV n (V.drop k) = match lnI n (splO V[k]) with | none => none | some m => lnV m (V.drop (k + 1)) := by
  rw [List.drop_eq_getElem_cons h]
  have : splitL V[k] = some (splO V[k]) := by
    unfold splE at hs
    unfold splO
    cases e : splitL V[k] with
    | none => rw [e] at hs; simp at hs
    | some L => rfl
  conv => lhs; unfold lnV
  rw [this]
  rfl
theorem lnI_bad {n : Int} {L : List (List UInt8)} {k : Nat} (h : k < L.length) (hs : numE 10 18 65536 L[k] ≠ 0 ∨ (0 ≤ n ∧ numN 10 18 65536 L[k] ≠ n)) : lnI n (L.drop k) = none := by
  rw [List.drop_eq_getElem_cons h]
  unfold lnI
  by_cases h1 : numE 10 18 65536 L[k] ≠ 0
  · rw [if_pos h1]
  · rw [if_neg h1, if_pos (hs.resolve_left h1)]
theorem lnI_step {n : Int} {L : List (List UInt8)} {k : Nat} (h : k < L.length) (h1 : numE 10 18 65536 L[k] = 0) (h2 : ¬ (0 ≤ n ∧ numN 10 18 65536 L[k] ≠ n)) : lnI n (L.drop k) = lnI (numN 10 18 65536 L[k]) (L.drop (k + 1)) := by
  rw [List.drop_eq_getElem_cons h]
  conv => lhs; unfold lnI
  rw [if_neg (by simp [h1]), if_neg h2]
theorem numN_le (l : List UInt8) : 0 ≤ numN 10 18 65536 l ∧ numN 10 18 65536 l ≤ 65536 := by
  unfold numN
  split
  · exact ⟨Int.le_refl _, by decide⟩
  · rename_i h
    have := valV_nn (b := 10) (by decide) l
    exact ⟨this, by omega⟩

set_option maxHeartbeats 8000000 in
set_option maxRecDepth 100000 in
theorem r_length (A : Option Addr) (n c : Nat) (V : List (List UInt8)) (w : World) (h : SlS w A n c V) (hn : n ≤ 100000000) (hz : ∀ x ∈ V, x.length ≤ 1000000) :
    Calls Tryz.prog 77 #[.slice A n c] w fun e w' => e = .returned (.tuple #[.int .i64 (lnA V), .bool (lnB V)]) ∧ Below w.heap.size w w' := by
  have hlen := h.len
  subst hlen
  have HNO := Lib.hid (fun h => ln_none (V := V) h)
  have HYE := Lib.hid (fun m h => ln_some (V := V) (n := m) h)
  generalize lnA V = RA at *
  generalize lnB V = RB at *
  obtain ⟨D, hD⟩ : ∃ D, D = lnV (-1) V := ⟨_, rfl⟩
  rw [← hD] at HNO HYE
  have HD := Lib.hid hD
  clear hD
  go_enter Tryz.func77, Tryz.ntmps77
  go_wp2_with fail
  go_loopw [4, 5] (fun u i wr => ∃ (k : Nat) (m : Int), k ≤ V.length ∧ i = .int .i64 (k : Int) ∧ u = .int .i64 m ∧ -1 ≤ m ∧ m ≤ 65536 ∧ Hid (D = lnV m (V.drop k)) ∧ Below w.heap.size w wr) (fun _ i _ => V.length - (intOf i).toNat)
  case atStart => exact ⟨0, -1, Nat.zero_le _, rfl, rfl, by decide, by decide, HD.out, Below.refl _ _⟩
  case round =>
    obtain ⟨k, m, hk, rfl, rfl, hm0, hm1, hf, hbel⟩ := hrel
    clear HD
    by_cases hlt : k < V.length
    · obtain ⟨ad, rfl, hc⟩ := h.at_ (by omega)
      have hcell := cell_kept hbel (hc k V[k] (List.getElem?_eq_getElem hlt))
      have hsz := hz _ (List.getElem_mem hlt)
      have hbad := fun hh => lnV_bad (n := m) hlt hh
      have hst := fun hh => lnV_step (n := m) hlt hh
      have CS := Lib.hid (fun W => r_split (mkS V[k]) W (by rw [mkS_size]; omega))
      rw [mkS_list] at CS
      have hcnt : (splO V[k]).length ≤ 1000001 ∧ ∀ x ∈ splO V[k], x.length ≤ 1000000 := by
        unfold splO
        cases e : splitL V[k] with
        | none => exact ⟨by simp, fun x hx => by simp at hx⟩
        | some L =>
          obtain ⟨g1, g2⟩ := split_good e
          exact ⟨by show L.length ≤ _; omega, fun x hx => by have := (g1 x hx).2; omega⟩
      generalize splE V[k] = se at *
      generalize splO V[k] = L at *
      obtain ⟨ms, hms⟩ : ∃ ms, ms = mkS V[k] := ⟨_, rfl⟩
      rw [← hms] at hcell CS
      have hi0 : (0 : Int) ≤ (k : Int) := by omega
      have hi1 : (k : Int) < (V.length : Int) := by omega
      have hs4 := hbel.size
      clear hc hsz hms
      by_cases hse : se = 0
      · have HS := Lib.hid (hst hse)
        subst hse
        clear hst hbad
        go_wp2_with fail
        refine (CS.out _).mono ?_
        rintro e w1 ⟨A1, c1, rfl, hS1, _, hb1⟩
        have HS1 := Lib.hid hS1
        have HB := Lib.hid (hbel.trans (hb1.mono hs4))
        clear hb1 hS1
        go_wp2_with fail
        go_loopw [4, 8] (fun u i wi => ∃ (j : Nat) (q : Int), j ≤ L.length ∧ i = .int .i64 (j : Int) ∧ u = .int .i64 q ∧ -1 ≤ q ∧ q ≤ 65536 ∧ Hid (D = match lnI q (L.drop j) with | none => none | some m => lnV m (V.drop (k + 1))) ∧ Below w.heap.size w wi ∧ Below w1.heap.size w1 wi) (fun _ i _ => L.length - (intOf i).toNat)
        case atStart => exact ⟨0, m, Nat.zero_le _, rfl, rfl, hm0, hm1, by show _ = _; rw [hf.out, HS.out]; rfl, HB.out, Below.refl _ _⟩
        case round =>
          obtain ⟨j, q, hj, rfl, rfl, hq0, hq1, hg, hbi, hb1⟩ := hrel
          clear hf HS
          by_cases hjl : j < L.length
          · obtain ⟨bd, rfl, hd⟩ := HS1.out.at_ (by omega)
            have hcell2 := cell_kept hb1 (hd j L[j] (List.getElem?_eq_getElem hjl))
            have hsz2 := hcnt.2 _ (List.getElem_mem hjl)
            have hms2 : (mkS L[j]).size ≤ maxLen := by rw [mkS_size]; have : (1000000 : Nat) ≤ maxLen := by decide
                                                       omega
            have CN := Lib.hid (fun W => r_number_any (mkS L[j]) 65536 W hms2)
            rw [mkS_list] at CN
            have hib := fun hh => lnI_bad (n := q) hjl hh
            have his := fun h1 h2 => lnI_step (n := q) hjl h1 h2
            have hnl := numN_le L[j]
            generalize numN 10 18 65536 L[j] = M at *
            generalize numE 10 18 65536 L[j] = E at *
            obtain ⟨ms2, hms3⟩ : ∃ ms2, ms2 = mkS L[j] := ⟨_, rfl⟩
            rw [← hms3] at hcell2 CN
            have hj0 : (0 : Int) ≤ (j : Int) := by omega
            have hj1 : (j : Int) < (L.length : Int) := by omega
            clear hd hsz2 hms2 hms3
            by_cases hE : E = 0
            · by_cases hq : 0 ≤ q
              · by_cases hM : M = q
                · have HG : Hid (D = match lnI M (L.drop (j + 1)) with | none => none | some m => lnV m (V.drop (k + 1))) := by
                    show _ = _
                    rw [hg.out, his hE (fun h => h.2 hM)]
                  subst hE
                  clear hib his hg
                  subst hM
                  go_wp2_with fail
                  refine (CN.out _).mono ?_
                  rintro e w2 ⟨rfl, rfl⟩
                  go_wp2_with fail
                  go_roundw
                  case rel => exact ⟨j + 1, M, by omega, by go_num, rfl, by omega, by omega, HG, hbi, hb1⟩
                  case measure => simp [intOf]; omega
                · have hn := hib (.inr ⟨hq, hM⟩)
                  have HR := Lib.hid (HNO.out (by rw [hg.out, hn]))
                  have hM1 : (M == q) = false := by simpa using hM
                  subst hE
                  clear hib his hg hn
                  go_wp2_with fail
                  refine (CN.out _).mono ?_
                  rintro e w2 ⟨rfl, rfl⟩
                  go_wp2_with fail
                  go_ret2
                  exact ⟨by rw [HR.out.1, HR.out.2]; rfl, hbi⟩
              · have HG : Hid (D = match lnI M (L.drop (j + 1)) with | none => none | some m => lnV m (V.drop (k + 1))) := by
                  show _ = _
                  rw [hg.out, his hE (fun h => hq h.1)]
                subst hE
                clear hib his hg
                go_wp2_with fail
                refine (CN.out _).mono ?_
                rintro e w2 ⟨rfl, rfl⟩
                go_wp2_with fail
                go_roundw
                case rel => exact ⟨j + 1, M, by omega, by go_num, rfl, by omega, by omega, HG, hbi, hb1⟩
                case measure => simp [intOf]; omega
            · have hn := hib (.inl hE)
              have HR := Lib.hid (HNO.out (by rw [hg.out, hn]))
              have hE1 : (E == 0) = false := by simpa using hE
              clear hib his hg hn
              go_wp2_with fail
              refine (CN.out _).mono ?_
              rintro e w2 ⟨rfl, rfl⟩
              go_wp2_with fail
              go_ret2
              exact ⟨by rw [HR.out.1, HR.out.2]; rfl, hbi⟩
          · have HG : Hid (D = lnV q (V.drop (k + 1))) := by
              show _ = _
              rw [hg.out, List.drop_eq_nil_of_le (by omega)]; rfl
            have hj1 : ¬ (j : Int) < (L.length : Int) := by omega
            clear hg
            go_wp2_with fail
            go_roundw
            case rel => exact ⟨k + 1, q, by omega, by go_num, rfl, hq0, hq1, HG, hbi⟩
            case measure => simp [intOf]; omega
      · have hn := hbad hse
        have HR := Lib.hid (HNO.out (by rw [hf.out, hn]))
        have hse1 : (se == 0) = false := by simpa using hse
        clear hbad hst hf hn
        go_wp2_with fail
        refine (CS.out _).mono ?_
        rintro e w1 ⟨A1, c1, rfl, _, _, hb1⟩
        have HB := Lib.hid (hbel.trans (hb1.mono hs4))
        go_wp2_with fail
        go_ret2
        exact ⟨by rw [HR.out.1, HR.out.2]; rfl, HB.out⟩
    · have hR := HYE.out m (by rw [hf.out, List.drop_eq_nil_of_le (by omega)]; rfl)
      have HR := Lib.hid hR
      have hi1 : ¬ (k : Int) < (V.length : Int) := by omega
      clear hf hR
      by_cases hm : 0 ≤ m
      · have e : decide (0 ≤ m) = true := decide_eq_true hm
        rw [e] at HR
        clear e
        go_wp2_with fail
        go_ret2
        exact ⟨by rw [HR.out.1, HR.out.2]; rfl, hbel⟩
      · have e : decide (0 ≤ m) = false := decide_eq_false hm
        rw [e] at HR
        clear e
        go_wp2_with fail
        go_ret2
        exact ⟨by rw [HR.out.1, HR.out.2]; rfl, hbel⟩

end Go.Proofs.YtjcomlklmfeimaaGreatDoor
end
