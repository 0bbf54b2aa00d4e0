/-
  Contracts of the reference's Same, Match (layer 14).
-/
import Derived.Test.YtdaoliobmgcmoaaEtgL
import Derived.Deep.RegionHeld3
import Derived.Deep.QuietTactic
import Derived.BigQuiet
namespace Go.Proofs.Ytdaoliobmgcmoaa
open Go.RowKit
set_option linter.unusedSimpArgs false

/-- The same tags. -/
def eqT (x y : Tg) : Bool := (x.1 == y.1) && (x.2.toList == y.2.toList)
def samT : List Tg → List Tg → Bool
  | x :: a, y :: b => eqT x y && samT a b
  | [], [] => true
  | _, _ => false
theorem samT_len : ∀ (L M : List Tg), L.length ≠ M.length → samT L M = false
  | [], [], h => absurd rfl h
  | [], _ :: _, _ => rfl
  | _ :: _, [], _ => rfl
  | x :: a, y :: b, h => by
    unfold samT
    rw [samT_len a b (fun e => h (by simp [e]))]; simp
theorem samT_drop (L M : List Tg) (k : Nat) (h : k < L.length) (g : k < M.length) : samT (L.drop k) (M.drop k) = (eqT L[k] M[k] && samT (L.drop (k + 1)) (M.drop (k + 1))) := by
  rw [List.drop_eq_getElem_cons h, List.drop_eq_getElem_cons g]; rfl
theorem eqT_refl (x : Tg) : eqT x x = true := by simp [eqT]
theorem samT_refl : ∀ L : List Tg, samT L L = true
  | [] => rfl
  | x :: L => by unfold samT; rw [eqT_refl, samT_refl L]; rfl

set_option maxHeartbeats 8000000 in
set_option maxRecDepth 100000 in
theorem r_etSame (A B : Option Addr) (n c m d : Nat) (L M : List Tg) (w : World) (h : SlT w A n c L) (h' : SlT w B m d M) (hn : n ≤ 100000000) :
    Calls Try.prog 12 #[.slice A n c, .slice B m d] w fun e w' => e = .returned (.bool (samT L M)) ∧ Below w.heap.size w w' := by
  have hlen := h.len
  have hlem := h'.len
  subst hlen hlem
  by_cases hl : L.length = M.length
  · have hlb : ((L.length : Int) == (M.length : Int)) = true := by rw [hl]; simp
    have hlc : ((L.length : Int) != (M.length : Int)) = false := by rw [hl]; simp
    have HLM := Lib.hid hl
    clear hl
    go_enter Try.func12, Try.ntmps12
    go_wp2_with fail
    go_loopw [5] (fun i wr => ∃ k : Nat, k ≤ L.length ∧ i = .int .i64 k ∧ Hid (samT L M = samT (L.drop k) (M.drop k)) ∧ Below w.heap.size w wr) (fun i _ => L.length - (intOf i).toNat)
    case atStart => exact ⟨0, Nat.zero_le _, rfl, rfl, Below.refl _ _⟩
    case round =>
      obtain ⟨k, hk, rfl, hf, hbel⟩ := hrel
      by_cases hlt : k < L.length
      · have hlt2 : k < M.length := by have := HLM.out; omega
        obtain ⟨ad, rfl, hc⟩ := h.at_ (by omega)
        obtain ⟨bd, rfl, hd⟩ := h'.at_ (by omega)
        obtain ⟨hc0, hc1⟩ := hc k L[k] (List.getElem?_eq_getElem hlt)
        obtain ⟨hd0, hd1⟩ := hd k M[k] (List.getElem?_eq_getElem hlt2)
        have HS := Lib.hid (samT_drop L M k hlt hlt2)
        generalize L[k] = x at *
        generalize M[k] = y at *
        obtain ⟨xa, xb⟩ := x
        obtain ⟨ya, yb⟩ := y
        have HC0 := Lib.hid (cell_kept hbel.drew hc0)
        have HC1 := Lib.hid (fd_snd (cell_kept hbel.drew hc1))
        have HD0 := Lib.hid (cell_kept hbel.drew hd0)
        have HD1 := Lib.hid (fd_snd (cell_kept hbel.drew hd1))
        have hA : eqT (xa, xb) (ya, yb) = ((xa == ya) && (xb.toList == yb.toList)) := rfl
        rw [hA] at HS
        have hi0 : (0 : Int) ≤ (k : Int) := by omega
        have hi1 : (k : Int) < (L.length : Int) := by omega
        have hi2 : (k : Int) < (M.length : Int) := by omega
        have hbel := hbel.drew
        clear hc hd hc0 hc1 hd0 hd1 hA
        have both : ∀ t : Bool, t = true ∨ t = false := fun t => by cases t <;> simp
        cases xa with
        | true =>
          cases ya with
          | true =>
            rcases both (xb.toList == yb.toList) with hS | hS
            · have HR : Hid (samT L M = samT (L.drop (k + 1)) (M.drop (k + 1))) := by
                show _ = _
                rw [hf.out, HS.out, hS]; rfl
              clear HS hf
              go_wp2_with fail
              go_region_held3 (fun W => W.cell? (ad.add (k * 2)) = some (.bool true) ∧ W.cell? { block := (ad.add (k * 2)).block, off := (ad.add (k * 2)).off + 1 } = some (.string xb) ∧ W.cell? (bd.add (k * 2)) = some (.bool true) ∧ W.cell? { block := (bd.add (k * 2)).block, off := (bd.add (k * 2)).off + 1 } = some (.string yb)) (exact ⟨HC0.out, HC1.out, HD0.out, HD1.out⟩) (fail)
              go_wp2_with fail
              go_roundw
              case rel => exact ⟨k + 1, by omega, by go_num, HR, hbel⟩
              case measure => simp [intOf]; omega
            · skip
              have HR : Hid (samT L M = false) := by
                show _ = _
                rw [hf.out, HS.out, hS]; rfl
              clear HS hf
              go_wp2_with fail
              go_region_held3 (fun W => W.cell? (ad.add (k * 2)) = some (.bool true) ∧ W.cell? { block := (ad.add (k * 2)).block, off := (ad.add (k * 2)).off + 1 } = some (.string xb) ∧ W.cell? (bd.add (k * 2)) = some (.bool true) ∧ W.cell? { block := (bd.add (k * 2)).block, off := (bd.add (k * 2)).off + 1 } = some (.string yb)) (exact ⟨HC0.out, HC1.out, HD0.out, HD1.out⟩) (fail)
              go_wp2_with fail
              go_ret
              exact ⟨by rw [HR.out]; rfl, hbel⟩
          | false =>
            have HR : Hid (samT L M = false) := by
              show _ = _
              rw [hf.out, HS.out]; rfl
            clear HS hf
            go_wp2_with fail
            go_region_held3 (fun W => W.cell? (ad.add (k * 2)) = some (.bool true) ∧ W.cell? { block := (ad.add (k * 2)).block, off := (ad.add (k * 2)).off + 1 } = some (.string xb) ∧ W.cell? (bd.add (k * 2)) = some (.bool false) ∧ W.cell? { block := (bd.add (k * 2)).block, off := (bd.add (k * 2)).off + 1 } = some (.string yb)) (exact ⟨HC0.out, HC1.out, HD0.out, HD1.out⟩) (fail)
            go_wp2_with fail
            go_ret
            exact ⟨by rw [HR.out]; rfl, hbel⟩
        | false =>
          cases ya with
          | true =>
            have HR : Hid (samT L M = false) := by
              show _ = _
              rw [hf.out, HS.out]; rfl
            clear HS hf
            go_wp2_with fail
            go_region_held3 (fun W => W.cell? (ad.add (k * 2)) = some (.bool false) ∧ W.cell? { block := (ad.add (k * 2)).block, off := (ad.add (k * 2)).off + 1 } = some (.string xb) ∧ W.cell? (bd.add (k * 2)) = some (.bool true) ∧ W.cell? { block := (bd.add (k * 2)).block, off := (bd.add (k * 2)).off + 1 } = some (.string yb)) (exact ⟨HC0.out, HC1.out, HD0.out, HD1.out⟩) (fail)
            go_wp2_with fail
            go_ret
            exact ⟨by rw [HR.out]; rfl, hbel⟩
          | false =>
            rcases both (xb.toList == yb.toList) with hS | hS
            · have HR : Hid (samT L M = samT (L.drop (k + 1)) (M.drop (k + 1))) := by
                show _ = _
                rw [hf.out, HS.out, hS]; rfl
              clear HS hf
              go_wp2_with fail
              go_region_held3 (fun W => W.cell? (ad.add (k * 2)) = some (.bool false) ∧ W.cell? { block := (ad.add (k * 2)).block, off := (ad.add (k * 2)).off + 1 } = some (.string xb) ∧ W.cell? (bd.add (k * 2)) = some (.bool false) ∧ W.cell? { block := (bd.add (k * 2)).block, off := (bd.add (k * 2)).off + 1 } = some (.string yb)) (exact ⟨HC0.out, HC1.out, HD0.out, HD1.out⟩) (fail)
              go_wp2_with fail
              go_roundw
              case rel => exact ⟨k + 1, by omega, by go_num, HR, hbel⟩
              case measure => simp [intOf]; omega
            · skip
              have HR : Hid (samT L M = false) := by
                show _ = _
                rw [hf.out, HS.out, hS]; rfl
              clear HS hf
              go_wp2_with fail
              go_region_held3 (fun W => W.cell? (ad.add (k * 2)) = some (.bool false) ∧ W.cell? { block := (ad.add (k * 2)).block, off := (ad.add (k * 2)).off + 1 } = some (.string xb) ∧ W.cell? (bd.add (k * 2)) = some (.bool false) ∧ W.cell? { block := (bd.add (k * 2)).block, off := (bd.add (k * 2)).off + 1 } = some (.string yb)) (exact ⟨HC0.out, HC1.out, HD0.out, HD1.out⟩) (fail)
              go_wp2_with fail
              go_ret
              exact ⟨by rw [HR.out]; rfl, hbel⟩
      · have HR : Hid (samT L M = true) := by
          show _ = _
          rw [hf.out, List.drop_eq_nil_of_le (by omega), List.drop_eq_nil_of_le (by have := HLM.out; omega)]; rfl
        clear hf
        go_wp2_with fail
        go_ret
        exact ⟨by rw [HR.out]; rfl, hbel⟩
  · have hlb : ((L.length : Int) == (M.length : Int)) = false := by rw [beq_eq_false_iff_ne]; omega
    have HR := Lib.hid (samT_len L M hl)
    clear hl
    go_enter Try.func12, Try.ntmps12
    go_wp2_with fail
    go_ret
    exact ⟨by rw [HR.out]; rfl, Below.refl _ _⟩

theorem add_len {p : List UInt8} {X Y : List Tg} (h : addT p X = some Y) : Y.length ≤ X.length + 1 := by
  unfold addT at h
  split at h
  · cases h; omega
  · split at h
    · cases h; simp
    · cases h
theorem lsR_len : ∀ (l : List UInt8) (q : Bool) (p : List UInt8) (X Y : List Tg), lsR q p X l = some Y → Y.length ≤ X.length + l.length + 1
  | [], q, p, X, Y, h => by
    have := add_len (show addT p X = some Y from h)
    simp only [List.length_nil]; omega
  | c :: r, q, p, X, Y, h => by
    unfold lsR at h
    rw [List.length_cons]
    split at h
    · have := lsR_len r _ _ _ _ h; omega
    · cases hA : addT p X with
      | none => rw [hA] at h; cases h
      | some o =>
        rw [hA] at h
        have h1 := add_len hA
        have h2 := lsR_len r _ _ _ _ h
        omega
theorem ls_len (s : ByteArray) : (lsL s).length ≤ s.size + 1 := by
  unfold lsL
  split
  · exact Nat.zero_le _
  · unfold lsP
    cases h : lsR false [] [] s.data.toList with
    | none => exact Nat.zero_le _
    | some Y =>
      have := lsR_len _ _ _ _ _ h
      rw [← Lib.size_eq] at this
      simpa using this

theorem any_drop (p : Tg → Bool) (L : List Tg) (k : Nat) (h : k < L.length) : (L.drop k).any p = (p L[k] || (L.drop (k + 1)).any p) := by
  rw [List.drop_eq_getElem_cons h]; rfl

set_option maxHeartbeats 8000000 in
set_option maxRecDepth 100000 in
theorem r_etMatch (s : ByteArray) (t : Tg) (w : World) (hs : s.size ≤ 100000000) :
    Calls Try.prog 14 #[.string s, tgV t] w fun e w' => e = .returned (.bool (mtB s t)) ∧ Below w.heap.size w w' := by
  have C1 := Lib.hid (fun W => r_etList s W hs)
  have hD : mtB s t = (lsA s || (lsL s).any fun x => wekB x t) := rfl
  have HDD := Lib.hid hD
  unfold IsTs at C1
  clear hD
  generalize mtB s t = R at *
  generalize lsL s = L at *
  generalize lsA s = any at *
  generalize lsE s = E at *
  have CW := Lib.hid (fun W x => r_etWeak x t W)
  generalize hP : (fun x => wekB x t) = P at *
  have HP : Hid (∀ x, P x = wekB x t) := fun x => by rw [← hP]
  clear hP
  obtain ⟨ta, tb⟩ := t
  unfold tgV at CW ⊢
  have HZ : Hid ((w.alloc (.cells #[.bool ta, .string tb] 23)).heap[w.heap.size]? = some (.cells #[.bool ta, .string tb] 23 (0, 0))) := heap_alloc_new w _
  have HB : Hid (Below w.heap.size w (w.alloc (.cells #[.bool ta, .string tb] 23))) := (Below.refl _ _).alloc (Nat.le_refl _) _
  go_enter Try.func14, Try.ntmps14
  go_wp2_with fail
  refine (C1.out _).mono ?_
  rintro e w1 ⟨A, c, rfl, hF, hb1⟩
  have HZ := Lib.hid (zero_still hb1 HZ.out)
  have HB := Lib.hid (below_then HB.out hb1)
  have HF := Lib.hid hF
  have hLm : L.length ≤ 9223372036854775807 := hF.le
  clear hb1 hF
  go_wp2_with fail
  go_loopw [6, 8] (fun a i wr => ∃ (k : Nat) (q : Bool), k ≤ L.length ∧ a = .bool q ∧ i = .int .i64 k ∧ Hid (R = (q || (L.drop k).any P)) ∧ Hid (wr.heap[w.heap.size]? = some (.cells #[.bool ta, .string tb] 23 (0, 0))) ∧ Hid (SlT wr A L.length c L) ∧ Hid (Below w.heap.size w wr)) (fun _ i _ => L.length - (intOf i).toNat)
  case atStart => exact ⟨0, _, Nat.zero_le _, rfl, rfl, HDD.out, HZ.out, HF.out, HB.out⟩
  case round =>
    clear HDD HZ HF HB
    obtain ⟨k, q, hk, rfl, rfl, hf, HZ, HF, HB⟩ := hrel
    by_cases hlt : k < L.length
    · have hi0 : (0 : Int) ≤ (k : Int) := by omega
      have hi1 : (k : Int) < (L.length : Int) := by omega
      have hst := any_drop P L k hlt
      cases q with
      | true =>
        have HR : Hid (R = (true || (L.drop (k + 1)).any P)) := hf.out
        clear hf hst
        go_wp2_with fail
        go_quiet (fail)
        go_wp2_with fail
        go_roundw
        case rel => exact ⟨k + 1, true, by omega, rfl, by go_num, HR, HZ.out, HF.out.keep fun _ _ h => h, below_drawn HB.out _⟩
        case measure => simp [intOf]; omega
      | false =>
        obtain ⟨ad, rfl, hc⟩ := HF.out.at_ (by omega)
        obtain ⟨hc0, hc1⟩ := hc k L[k] (List.getElem?_eq_getElem hlt)
        have hc1 := fd_snd hc1
        have HR : Hid (R = (P L[k] || (L.drop (k + 1)).any P)) := by show _ = _; rw [hf.out, hst]; rfl
        rw [HP.out] at HR
        generalize L[k] = x at *
        obtain ⟨xa, xb⟩ := x
        have CX := Lib.hid (fun W => CW.out W (xa, xb))
        unfold tgV at CX
        generalize wekB (xa, xb) (ta, tb) = Q at *
        have HC : Hid (wr.drew.cell? (ad.add (k * 2)) = some (.bool xa) ∧ wr.drew.cell? { block := (ad.add (k * 2)).block, off := (ad.add (k * 2)).off + 1 } = some (.string xb) ∧ wr.drew.cell? ⟨w.heap.size, 0, none⟩ = some (.bool ta) ∧ wr.drew.cell? ⟨w.heap.size, 1, none⟩ = some (.string tb)) := ⟨hc0, hc1, (zero_two HZ.out).1, (zero_two HZ.out).2⟩
        have HB := Lib.hid HB.out.drew
        have HZ : Hid (wr.drew.heap[w.heap.size]? = some (.cells #[.bool ta, .string tb] 23 (0, 0))) := HZ.out
        have HF := Lib.hid HF.out.drew
        clear hf hst hc CW hc0 hc1
        go_wp2_with fail
        go_region_held3 (fun W => W.cell? (ad.add (k * 2)) = some (.bool xa) ∧ W.cell? { block := (ad.add (k * 2)).block, off := (ad.add (k * 2)).off + 1 } = some (.string xb) ∧ W.cell? ⟨w.heap.size, 0, none⟩ = some (.bool ta) ∧ W.cell? ⟨w.heap.size, 1, none⟩ = some (.string tb)) (exact HC.out) (first
          | (go_at_call 20; refine (CX.out _).mono ?_; rintro e w2 ⟨rfl, hb2⟩; have HC : Hid (w2.cell? (ad.add (k * 2)) = some (.bool xa) ∧ w2.cell? { block := (ad.add (k * 2)).block, off := (ad.add (k * 2)).off + 1 } = some (.string xb) ∧ w2.cell? ⟨w.heap.size, 0, none⟩ = some (.bool ta) ∧ w2.cell? ⟨w.heap.size, 1, none⟩ = some (.string tb)) := ⟨cell_kept hb2 HC.out.1, cell_kept hb2 HC.out.2.1, cell_kept hb2 HC.out.2.2.1, cell_kept hb2 HC.out.2.2.2⟩; have HZ := Lib.hid (zero_still hb2 HZ.out); have HF := Lib.hid (HF.out.below hb2); have HB := Lib.hid (below_then HB.out hb2); clear hb2))
        go_wp2_with fail
        go_roundw
        case rel => exact ⟨k + 1, Q, by omega, rfl, by go_num, HR, HZ.out, HF.out, HB.out⟩
        case measure => simp [intOf]; omega
    · have HR : Hid (R = q) := by show _ = _; rw [hf.out, List.drop_eq_nil_of_le (by omega)]; simp
      have hi1 : ¬ (k : Int) < (L.length : Int) := by omega
      clear hf
      go_wp2_with fail
      go_ret
      exact ⟨by rw [HR.out]; rfl, HB.out⟩

end Go.Proofs.Ytdaoliobmgcmoaa
