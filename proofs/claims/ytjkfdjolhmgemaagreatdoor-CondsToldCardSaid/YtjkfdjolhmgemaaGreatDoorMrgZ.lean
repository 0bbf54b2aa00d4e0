/-
  Texts that the laws of this seat lean on, one behind the other.
-/
import Derived.Test.YtjkfdjolhmgemaaGreatDoorMrgY
import Derived.Test.YtjkfdjolhmgemaaGreatDoorMrgJ
import Derived.Deep.RegionHeld3
import Derived.Deep.QuietTactic
import Derived.BigQuiet
set_option linter.unusedSimpArgs false
set_option linter.unusedVariables false
/-
  Contract of the reference's List (layer 14).
-/
section
namespace Go.Proofs.YtjkfdjolhmgemaaGreatDoor
open Go.RowKit
set_option linter.unusedSimpArgs false

theorem lext (s p : ByteArray) (k : Nat) (h : k < s.size) : (p ++ s.extract k (k + 1)).data.toList = p.data.toList ++ [s[k]] := by
  rw [append_list, piece_ext, mkS_list, piece_snoc s k k (Nat.le_refl _) h, piece_none, List.nil_append]
theorem lxt_size (s p : ByteArray) (k m : Nat) (hm : m ≤ s.size) (hk : k ≤ m) : (p ++ s.extract k m).size = p.size + (m - k) := by simp; omega
theorem lmk_empty (l : List UInt8) : (mkS l).toList.isEmpty = l.isEmpty := by rw [Lib.toList_data, mkS_list]
theorem lbyte {c : UInt8} {n : Nat} (_hn : n < 256) (h : ((c.toNat : Int) == (n : Int)) = true) : c = UInt8.ofNat n := by
  have : c.toNat = n := by have := beq_iff_eq.1 h; omega
  rw [← this]; simp
theorem lbyte2 (c : UInt8) : (c = 34 ∧ ((c.toNat : Int) == 34) = true ∧ ((c.toNat : Int) == 44) = false) ∨ (c = 44 ∧ ((c.toNat : Int) == 34) = false ∧ ((c.toNat : Int) == 44) = true) ∨ ((c ≠ 34 ∧ c ≠ 44) ∧ ((c.toNat : Int) == 34) = false ∧ ((c.toNat : Int) == 44) = false) := by
  by_cases h1 : c = 34
  · subst h1; exact .inl ⟨rfl, rfl, rfl⟩
  by_cases h3 : c = 44
  · subst h3; exact .inr (.inl ⟨rfl, rfl, rfl⟩)
  · refine .inr (.inr ⟨⟨h1, h3⟩, ?_, ?_⟩)
    all_goals
      rw [beq_eq_false_iff_ne]
      intro h
      first
        | exact h1 (lbyte (n := 34) (by omega) (by simpa using h))
        | exact h3 (lbyte (n := 44) (by omega) (by simpa using h))
/-- How the state stands for the list's. -/
def lsb (q : Bool) (p : ByteArray) (X : List Tg) (s : ByteArray) (k : Nat) : Option (List Tg) := if k ≤ s.size then lsR q p.data.toList X (s.data.toList.drop k) else some X
theorem lsb_quote (s p : ByteArray) (X : List Tg) (q : Bool) (k : Nat) (h : k < s.size) (hc : s[k] = 34) : lsb q p X s k = lsb (!q) (p ++ s.extract k (k + 1)) X s (k + 1) := by
  unfold lsb
  rw [if_pos (by omega), if_pos (by omega), lext s p k h, drop_at s k h, hc]
  simp [lsR]
theorem lsb_other (s p : ByteArray) (X : List Tg) (q : Bool) (k : Nat) (h : k < s.size) (hc : s[k] ≠ 34) (h44 : s[k] ≠ 44 ∨ q = true) : lsb q p X s k = lsb q (p ++ s.extract k (k + 1)) X s (k + 1) := by
  unfold lsb
  rw [if_pos (by omega), if_pos (by omega), lext s p k h, drop_at s k h]
  simp only [lsR]
  rw [if_pos h44, if_neg hc]
theorem lsb_end (s p : ByteArray) (X : List Tg) (q : Bool) (k : Nat) (hk : k ≤ s.size) (h : k = s.size ∨ ∃ h : k < s.size, s[k] = 44 ∧ q = false) : lsb q p X s k = match addT p.data.toList X with | none => none | some o => lsb q ⟨#[]⟩ o s (k + 1) := by
  rcases h with rfl | ⟨h, hc, rfl⟩
  · unfold lsb
    rw [if_pos hk, List.drop_eq_nil_of_le (by rw [← Lib.size_eq]; omega)]
    simp only [lsR, if_neg (show ¬ s.size + 1 ≤ s.size by omega)]
    split <;> simp_all
  · unfold lsb
    simp only [if_pos hk, if_pos (show k + 1 ≤ s.size by omega)]
    rw [drop_at s k h, hc]
    simp [lsR]
    cases addT p.data.toList X <;> rfl
theorem add_keep {X : List Tg} {p : List UInt8} (h : trimL p = []) : addT p X = some X := by simp [addT, h]
theorem add_more {X : List Tg} {p T : List UInt8} (h : trimL p = T) (hT : T ≠ []) (ht : tgB (mkS T) = true) : addT p X = some (X ++ [tgO (mkS T)]) := by subst h; simp [addT, hT, ht]
theorem add_bad {X : List Tg} {p T : List UInt8} (h : trimL p = T) (hT : T ≠ []) (ht : tgB (mkS T) = false) : addT p X = none := by subst h; simp [addT, hT, ht]
theorem offW_le (s : ByteArray) : (offW s).size ≤ s.size := by
  unfold offW
  split
  · simp
  · exact Nat.le_refl _
theorem tgO_le (s : ByteArray) : (tgO s).2.size ≤ s.size := by
  unfold tgO
  split
  · have := offW_le s
    show (midL (offW s)).size ≤ _
    unfold midL
    simp
    omega
  · exact Nat.zero_le _
theorem etrim_le (l : List UInt8) : (trimL l).length ≤ l.length := Nat.le_trans (rdw_prefix _).length_le (List.dropWhile_suffix _).length_le

/-- The answer is tags, whether all are meant, and a code. -/
def IsTs (w : World) (L : List Tg) (any : Bool) (E : Int) (e : Ending) (w' : World) : Prop := ∃ A c, e = .returned (.tuple #[.slice A L.length c, .bool any, .int .i64 E]) ∧ SlT w' A L.length c L ∧ Below w.heap.size w w'

set_option maxHeartbeats 16000000 in
set_option maxRecDepth 100000 in
theorem r_etList (s : ByteArray) (w : World) (hs : s.size ≤ 100000000) :
    Calls Tryz.prog 33 #[.string s] w (IsTs w (lsL s) (lsA s) (lsE s)) := by
  have hms : s.size ≤ maxLen := by unfold maxLen; omega
  have CT := Lib.hid (fun W => r_trim s W hms)
  have hA : lsA s = ((mkS (trimL s.data.toList)).toList == [42]) := rfl
  unfold IsTs
  clear hms
  cases hl : lsA s with
  | true =>
    have h1 : lsL s = [] := by unfold lsL; rw [hl]; rfl
    have h2 : lsE s = 0 := by unfold lsE; rw [hl]; rfl
    rw [h1, h2]
    rw [hl] at hA
    replace hA := hA.symm
    clear h1 h2 hl
    generalize mkS (trimL s.data.toList) = TS at *
    go_enter Tryz.func33, Tryz.ntmps33
    go_wp2_with (go_at_call 63; refine (CT.out _).mono ?_; rintro e w1 ⟨rfl, rfl⟩)
    go_ret3
    exact ⟨none, 0, rfl, SlT.none_ _, Below.refl _ _⟩
  | false =>
    have h1 : lsL s = lsP s := by unfold lsL; rw [hl]; rfl
    have h2 : lsE s = if (lsP s).isEmpty then 5 else 0 := by unfold lsE; rw [hl]; rfl
    have hLP : lsP s = (lsR false [] [] s.data.toList).getD [] := rfl
    rw [h1]
    rw [hl] at hA
    replace hA := hA.symm
    clear h1 hl
    have HE2 := Lib.hid h2
    clear h2
    generalize lsE s = EE at *
    obtain ⟨D, hD⟩ : ∃ D, lsR false [] [] s.data.toList = D := ⟨_, rfl⟩
    rw [hD] at hLP
    have HLP := Lib.hid hLP
    have HD : Hid (D = lsb false ⟨#[]⟩ [] s 0) := by show _ = _; rw [← hD]; unfold lsb; rw [if_pos (Nat.zero_le _)]; rfl
    clear hLP hD
    generalize lsP s = LP at *
    generalize mkS (trimL s.data.toList) = TS at *
    go_enter Tryz.func33, Tryz.ntmps33
    go_wp2_with (go_at_call 63; refine (CT.out _).mono ?_; rintro e w1 ⟨rfl, rfl⟩)
    go_loopw [5, 6, 7, 8] (fun v p q i wr => ∃ (k : Nat) (b : Bool) (P : ByteArray) (X : List Tg), k ≤ s.size + 1 ∧ P.size ≤ k ∧ X.length ≤ k ∧ p = .string P ∧ q = .bool b ∧ i = .int .i64 k ∧ Hid (OwnT wr w.heap.size 49 v X) ∧ Hid (∀ x ∈ X, x.2.size ≤ maxLen) ∧ Hid (D = lsb b P X s k) ∧ Below w.heap.size w wr) (fun _ _ _ i _ => s.size + 1 - (intOf i).toNat)
    case atStart => exact ⟨0, false, ⟨#[]⟩, [], Nat.zero_le _, Nat.zero_le _, Nat.zero_le _, rfl, rfl, rfl, OwnT.nil _ _ _, (fun _ h => absurd h (by simp)), HD.out, Below.refl _ _⟩
    case round =>
      clear HD
      obtain ⟨k, b, P, X, hk, hP, hX, rfl, rfl, rfl, ho, hz, hf, hbel⟩ := hrel
      have hzr := hbel.size
      by_cases hlt : k < s.size
      · rcases lbyte2 s[k] with ⟨hc, e1, e3⟩ | ⟨hc, e1, e3⟩ | ⟨hc, e1, e3⟩
        · have e3n : ((s[k].toNat : Int) != 44) = true := by rw [bne, e3]; rfl
          have HN : Hid (D = lsb (!b) (P ++ s.extract k (k + 1)) X s (k + 1)) := hf.out.trans (lsb_quote s P X b k hlt hc)
          have hx1 : (k : Int) + 1 ≤ (s.size : Int) := by omega
          have hx0 : (k : Int) ≤ (k : Int) + 1 := by omega
          have hsz : (P ++ s.extract k (k + 1)).size ≤ k + 1 := by rw [lxt_size s P k (k + 1) (by omega) (by omega)]; omega
          clear hf hc
          cases b
          all_goals
            go_wp2_with fail
            go_roundw
            case rel => exact ⟨k + 1, _, _, X, by omega, hsz, by omega, rfl, rfl, by go_num, ho, hz, HN, hbel⟩
            case measure => simp [intOf]; omega
        · have e3n : ((s[k].toNat : Int) != 44) = false := by rw [bne, e3]; rfl
          cases b with
          | true =>
            have HN : Hid (D = lsb true (P ++ s.extract k (k + 1)) X s (k + 1)) := hf.out.trans (lsb_other s P X true k hlt (by rw [hc]; decide) (.inr rfl))
            have hx1 : (k : Int) + 1 ≤ (s.size : Int) := by omega
            have hx0 : (k : Int) ≤ (k : Int) + 1 := by omega
            have hsz : (P ++ s.extract k (k + 1)).size ≤ k + 1 := by rw [lxt_size s P k (k + 1) (by omega) (by omega)]; omega
            clear hf hc
            go_wp2_with fail
            go_roundw
            case rel => exact ⟨k + 1, _, _, X, by omega, hsz, by omega, rfl, rfl, by go_num, ho, hz, HN, hbel⟩
            case measure => simp [intOf]; omega
          | false =>
            have HS := lsb_end s P X false k (by omega) (.inr ⟨hlt, hc, rfl⟩)
            clear hc
            have hm : P.size ≤ maxLen := by unfold maxLen; omega
            have cp := fun W => r_trim P W hm
            obtain ⟨T, hT⟩ : ∃ T, trimL P.data.toList = T := ⟨_, rfl⟩
            have htl : T.length ≤ 100000001 := by have := etrim_le P.data.toList; rw [hT, ← Lib.size_eq] at this; omega
            rw [hT] at cp
            have CP := Lib.hid cp
            clear cp
            by_cases hte : T = []
            · have HN : Hid (D = lsb false ⟨#[]⟩ X s (k + 1)) := by show _ = _; rw [hf.out, HS, add_keep (hT.trans hte)]
              have hE : (mkS T).toList.isEmpty = true := by rw [lmk_empty, hte]; rfl
              clear hf HS hT hte htl
              generalize mkS T = TT at *
              go_wp2_with (go_at_call 63; refine (CP.out _).mono ?_; rintro e w1 ⟨rfl, rfl⟩)
              go_roundw
              case rel => exact ⟨k + 1, false, ⟨#[]⟩, X, by omega, Nat.zero_le _, by omega, rfl, rfl, by go_num, ho, hz, HN, hbel⟩
              case measure => simp [intOf]; omega
            · have hE : (mkS T).toList.isEmpty = false := by rw [lmk_empty]; simpa using hte
              have cg := fun W => r_etParse (mkS T) W (by rw [mkS_size]; omega)
              have htz := tgO_le (mkS T)
              rw [mkS_size] at htz
              cases ht : tgB (mkS T) with
              | false =>
                have hn : D = none := by rw [hf.out, HS, add_bad hT hte ht]
                have hLE : LP = [] := by rw [HLP.out, hn]; rfl
                rw [ht] at cg
                have CG := Lib.hid cg
                have HLE := Lib.hid hLE
                clear hf HS hT hte ht cg htz htl HLP hLE hn
                generalize tgO (mkS T) = tg at *
                obtain ⟨ta, tb⟩ := tg
                unfold tgV at CG
                generalize mkS T = TT at *
                go_wp2_with (first
                  | (go_at_call 63; refine (CP.out _).mono ?_; rintro e w1 ⟨rfl, rfl⟩)
                  | (go_at_call 64; refine (CG.out _).mono ?_; rintro e w2 ⟨rfl, hb2⟩; have HB := Lib.hid (below_then hbel hb2); clear hb2))
                go_ret3
                rw [HE2.out, HLE.out]
                exact ⟨none, 0, rfl, SlT.none_ _, HB.out.alloc HB.out.size _⟩
              | true =>
                have HN : Hid (D = lsb false ⟨#[]⟩ (X ++ [tgO (mkS T)]) s (k + 1)) := by show _ = _; rw [hf.out, HS, add_more hT hte ht]
                have hz2 : ∀ x ∈ X ++ [tgO (mkS T)], x.2.size ≤ maxLen := fun x hx => by
                  rw [List.mem_append, List.mem_singleton] at hx
                  rcases hx with hx | rfl
                  · exact hz.out x hx
                  · have : (100000001 : Nat) ≤ maxLen := by decide
                    omega
                have HZ2 := Lib.hid hz2
                have HT1 := Lib.hid (show (tgO (mkS T)).2.size ≤ maxLen from hz2 _ (by simp))
                rw [ht] at cg
                have CG := Lib.hid cg
                clear hf HS hT hte ht cg htz htl hz2 HLP
                generalize tgO (mkS T) = tg at *
                obtain ⟨ta, tb⟩ := tg
                unfold tgV at CG
                generalize mkS T = TT at *
                go_wp2_with (go_at_call 63; refine (CP.out _).mono ?_; rintro e w1 ⟨rfl, rfl⟩)
                refine (CG.out _).mono ?_
                rintro e w2 ⟨rfl, hb2⟩
                have HB2 := Lib.hid (below_then hbel hb2)
                have HO2 := Lib.hid (ho.out.below hb2)
                clear hb2 hbel hzr ho
                generalize hW3 : w2.alloc (.cells #[.bool ta, .string tb] 49) = W3 at *
                have HB3 : Hid (Below w.heap.size w W3) := by show Below _ _ _; rw [← hW3]; exact HB2.out.alloc HB2.out.size _
                have ho3 := HO2.out.alloc (.cells #[.bool ta, .string tb] 49)
                rw [hW3] at ho3
                have HO3 := Lib.hid ho3
                clear ho3
                have hsz3 : w.heap.size ≤ W3.heap.size := HB3.out.size
                have qz : W3.heap[w2.heap.size]? = some (.cells #[.bool ta, .string tb] 49 (0, 0)) := by rw [← hW3]; exact heap_alloc_new w2 _
                have qa := (zero_two qz).1
                have qb := (zero_two qz).2
                go_wp2_with (at_builtin; refine wpList_append_slt rfl _ _ 56 rfl w.heap.size 49 Tryz.underlying56 (by kernel_rfl) _ rfl X (HO3.out.alloc _) _ 1 1 rfl [(ta, tb)] (SlT.one W3 49 (ta, tb) HT1.out) (by simp; omega) (by simp; omega) w (HB3.out.alloc hsz3 _) ?_; intro v1 w4 ho1 hb1 hz1)
                go_roundw
                case rel => exact ⟨k + 1, false, ⟨#[]⟩, X ++ [(ta, tb)], by omega, Nat.zero_le _, by simp; omega, rfl, rfl, by go_num, ho1, HZ2.out, HN, hb1⟩
                case measure => simp [intOf]; omega
        · have e3n : ((s[k].toNat : Int) != 44) = true := by rw [bne, e3]; rfl
          have HN : Hid (D = lsb b (P ++ s.extract k (k + 1)) X s (k + 1)) := hf.out.trans (lsb_other s P X b k hlt hc.1 (.inl hc.2))
          have hx1 : (k : Int) + 1 ≤ (s.size : Int) := by omega
          have hx0 : (k : Int) ≤ (k : Int) + 1 := by omega
          have hsz : (P ++ s.extract k (k + 1)).size ≤ k + 1 := by rw [lxt_size s P k (k + 1) (by omega) (by omega)]; omega
          clear hf hc
          cases b
          all_goals
            go_wp2_with fail
            go_roundw
            case rel => exact ⟨k + 1, _, _, X, by omega, hsz, by omega, rfl, rfl, by go_num, ho, hz, HN, hbel⟩
            case measure => simp [intOf]; omega
      · by_cases hle : k = s.size
        · have HS := lsb_end s P X b k (by omega) (.inl hle)
          have hi0 : (k : Int) ≤ (s.size : Int) := by omega
          have hi1 : ¬ (k : Int) < (s.size : Int) := by omega
          clear hlt
          have hm : P.size ≤ maxLen := by unfold maxLen; omega
          have cp := fun W => r_trim P W hm
          obtain ⟨T, hT⟩ : ∃ T, trimL P.data.toList = T := ⟨_, rfl⟩
          have htl : T.length ≤ 100000001 := by have := etrim_le P.data.toList; rw [hT, ← Lib.size_eq] at this; omega
          rw [hT] at cp
          have CP := Lib.hid cp
          clear cp
          by_cases hte : T = []
          · have HN : Hid (D = lsb b ⟨#[]⟩ X s (k + 1)) := by show _ = _; rw [hf.out, HS, add_keep (hT.trans hte)]
            have hE : (mkS T).toList.isEmpty = true := by rw [lmk_empty, hte]; rfl
            clear hf HS hT hte htl
            generalize mkS T = TT at *
            go_wp2_with (go_at_call 63; refine (CP.out _).mono ?_; rintro e w1 ⟨rfl, rfl⟩)
            go_roundw
            case rel => exact ⟨k + 1, b, ⟨#[]⟩, X, by omega, Nat.zero_le _, by omega, rfl, rfl, by go_num, ho, hz, HN, hbel⟩
            case measure => simp [intOf]; omega
          · have hE : (mkS T).toList.isEmpty = false := by rw [lmk_empty]; simpa using hte
            have cg := fun W => r_etParse (mkS T) W (by rw [mkS_size]; omega)
            have htz := tgO_le (mkS T)
            rw [mkS_size] at htz
            cases ht : tgB (mkS T) with
            | false =>
              have hn : D = none := by rw [hf.out, HS, add_bad hT hte ht]
              have hLE : LP = [] := by rw [HLP.out, hn]; rfl
              rw [ht] at cg
              have CG := Lib.hid cg
              have HLE := Lib.hid hLE
              clear hf HS hT hte ht cg htz htl HLP hLE hn
              generalize tgO (mkS T) = tg at *
              obtain ⟨ta, tb⟩ := tg
              unfold tgV at CG
              generalize mkS T = TT at *
              go_wp2_with (first
                | (go_at_call 63; refine (CP.out _).mono ?_; rintro e w1 ⟨rfl, rfl⟩)
                | (go_at_call 64; refine (CG.out _).mono ?_; rintro e w2 ⟨rfl, hb2⟩; have HB := Lib.hid (below_then hbel hb2); clear hb2))
              go_ret3
              rw [HE2.out, HLE.out]
              exact ⟨none, 0, rfl, SlT.none_ _, HB.out.alloc HB.out.size _⟩
            | true =>
              have HN : Hid (D = lsb b ⟨#[]⟩ (X ++ [tgO (mkS T)]) s (k + 1)) := by show _ = _; rw [hf.out, HS, add_more hT hte ht]
              have hz2 : ∀ x ∈ X ++ [tgO (mkS T)], x.2.size ≤ maxLen := fun x hx => by
                rw [List.mem_append, List.mem_singleton] at hx
                rcases hx with hx | rfl
                · exact hz.out x hx
                · have : (100000001 : Nat) ≤ maxLen := by decide
                  omega
              have HZ2 := Lib.hid hz2
              have HT1 := Lib.hid (show (tgO (mkS T)).2.size ≤ maxLen from hz2 _ (by simp))
              rw [ht] at cg
              have CG := Lib.hid cg
              clear hf HS hT hte ht cg htz htl hz2 HLP
              generalize tgO (mkS T) = tg at *
              obtain ⟨ta, tb⟩ := tg
              unfold tgV at CG
              generalize mkS T = TT at *
              go_wp2_with (go_at_call 63; refine (CP.out _).mono ?_; rintro e w1 ⟨rfl, rfl⟩)
              refine (CG.out _).mono ?_
              rintro e w2 ⟨rfl, hb2⟩
              have HB2 := Lib.hid (below_then hbel hb2)
              have HO2 := Lib.hid (ho.out.below hb2)
              clear hb2 hbel hzr ho
              generalize hW3 : w2.alloc (.cells #[.bool ta, .string tb] 49) = W3 at *
              have HB3 : Hid (Below w.heap.size w W3) := by show Below _ _ _; rw [← hW3]; exact HB2.out.alloc HB2.out.size _
              have ho3 := HO2.out.alloc (.cells #[.bool ta, .string tb] 49)
              rw [hW3] at ho3
              have HO3 := Lib.hid ho3
              clear ho3
              have hsz3 : w.heap.size ≤ W3.heap.size := HB3.out.size
              have qz : W3.heap[w2.heap.size]? = some (.cells #[.bool ta, .string tb] 49 (0, 0)) := by rw [← hW3]; exact heap_alloc_new w2 _
              have qa := (zero_two qz).1
              have qb := (zero_two qz).2
              go_wp2_with (at_builtin; refine wpList_append_slt rfl _ _ 56 rfl w.heap.size 49 Tryz.underlying56 (by kernel_rfl) _ rfl X (HO3.out.alloc _) _ 1 1 rfl [(ta, tb)] (SlT.one W3 49 (ta, tb) HT1.out) (by simp; omega) (by simp; omega) w (HB3.out.alloc hsz3 _) ?_; intro v1 w4 ho1 hb1 hz1)
              go_roundw
              case rel => exact ⟨k + 1, b, ⟨#[]⟩, X ++ [(ta, tb)], by omega, Nat.zero_le _, by simp; omega, rfl, rfl, by go_num, ho1, HZ2.out, HN, hb1⟩
              case measure => simp [intOf]; omega
        · have hi0 : ¬ (k : Int) ≤ (s.size : Int) := by omega
          have hfin : D = some X := by rw [hf.out]; unfold lsb; rw [if_neg (by omega)]
          have hLX : LP = X := by rw [HLP.out, hfin]; rfl
          have HLX := Lib.hid hLX
          clear hf hfin hLX HLP hlt
          obtain ⟨A1, c1, rfl, hF⟩ := ho.out.slt hz.out
          have HF := Lib.hid hF
          clear hF
          cases X with
          | nil =>
            go_wp2_with fail
            go_ret3
            rw [HE2.out, HLX.out]
            exact ⟨none, 0, rfl, SlT.none_ _, hbel⟩
          | cons x X =>
            have hne : ((X.length : Int) + 1 == 0) = false := by rw [beq_eq_false_iff_ne]; omega
            go_wp2_with fail
            go_ret3
            rw [HE2.out, HLX.out]
            exact ⟨A1, c1, rfl, HF.out, hbel⟩

end Go.Proofs.YtjkfdjolhmgemaaGreatDoor
end

/-
  Contracts of the reference's Same, Match (layer 14).
-/
section
namespace Go.Proofs.YtjkfdjolhmgemaaGreatDoor
open Go.RowKit
set_option linter.unusedSimpArgs false

/-- The same tags. -/
def eqT (x y : Tg) : Bool := (x.1 == y.1) && (x.2.toList == y.2.toList)
def samT : List Tg → List Tg → Bool
  | x :: a, y :: b => eqT x y && samT a b
  | [], [] => true
  | _, _ => false
theorem add_len {p : List UInt8} {X Y : List Tg} (h : addT p X = some Y) : Y.length ≤ X.length + 1 := by
  unfold addT at h
  split at h
  · cases h; omega
  · split at h
    · cases h; simp
    · cases h
theorem lsR_len : ∀ (l : List UInt8) (q : Bool) (p : List UInt8) (X Y : List Tg), lsR q p X l = some Y → Y.length ≤ X.length + l.length + 1
  | [], q, p, X, Y, h => by
    have := add_len (show addT p X = some Y from h)
    simp only [List.length_nil]; omega
  | c :: r, q, p, X, Y, h => by
    unfold lsR at h
    rw [List.length_cons]
    split at h
    · have := lsR_len r _ _ _ _ h; omega
    · cases hA : addT p X with
      | none => rw [hA] at h; cases h
      | some o =>
        rw [hA] at h
        have h1 := add_len hA
        have h2 := lsR_len r _ _ _ _ h
        omega
theorem ls_len (s : ByteArray) : (lsL s).length ≤ s.size + 1 := by
  unfold lsL
  split
  · exact Nat.zero_le _
  · unfold lsP
    cases h : lsR false [] [] s.data.toList with
    | none => exact Nat.zero_le _
    | some Y =>
      have := lsR_len _ _ _ _ _ h
      rw [← Lib.size_eq] at this
      simpa using this

theorem any_drop (p : Tg → Bool) (L : List Tg) (k : Nat) (h : k < L.length) : (L.drop k).any p = (p L[k] || (L.drop (k + 1)).any p) := by
  rw [List.drop_eq_getElem_cons h]; rfl

set_option maxHeartbeats 8000000 in
set_option maxRecDepth 100000 in
theorem r_etMatch (s : ByteArray) (t : Tg) (w : World) (hs : s.size ≤ 100000000) :
    Calls Tryz.prog 35 #[.string s, tgV t] w fun e w' => e = .returned (.bool (mtB s t)) ∧ Below w.heap.size w w' := by
  have C1 := Lib.hid (fun W => r_etList s W hs)
  have hD : mtB s t = (lsA s || (lsL s).any fun x => wekB x t) := rfl
  have HDD := Lib.hid hD
  unfold IsTs at C1
  clear hD
  generalize mtB s t = R at *
  generalize lsL s = L at *
  generalize lsA s = any at *
  generalize lsE s = E at *
  have CW := Lib.hid (fun W x => r_etWeak x t W)
  generalize hP : (fun x => wekB x t) = P at *
  have HP : Hid (∀ x, P x = wekB x t) := fun x => by rw [← hP]
  clear hP
  obtain ⟨ta, tb⟩ := t
  unfold tgV at CW ⊢
  have HZ : Hid ((w.alloc (.cells #[.bool ta, .string tb] 49)).heap[w.heap.size]? = some (.cells #[.bool ta, .string tb] 49 (0, 0))) := heap_alloc_new w _
  have HB : Hid (Below w.heap.size w (w.alloc (.cells #[.bool ta, .string tb] 49))) := (Below.refl _ _).alloc (Nat.le_refl _) _
  go_enter Tryz.func35, Tryz.ntmps35
  go_wp2_with fail
  refine (C1.out _).mono ?_
  rintro e w1 ⟨A, c, rfl, hF, hb1⟩
  have HZ := Lib.hid (zero_still hb1 HZ.out)
  have HB := Lib.hid (below_then HB.out hb1)
  have HF := Lib.hid hF
  have hLm : L.length ≤ 9223372036854775807 := hF.le
  clear hb1 hF
  go_wp2_with fail
  go_loopw [6, 8] (fun a i wr => ∃ (k : Nat) (q : Bool), k ≤ L.length ∧ a = .bool q ∧ i = .int .i64 k ∧ Hid (R = (q || (L.drop k).any P)) ∧ Hid (wr.heap[w.heap.size]? = some (.cells #[.bool ta, .string tb] 49 (0, 0))) ∧ Hid (SlT wr A L.length c L) ∧ Hid (Below w.heap.size w wr)) (fun _ i _ => L.length - (intOf i).toNat)
  case atStart => exact ⟨0, _, Nat.zero_le _, rfl, rfl, HDD.out, HZ.out, HF.out, HB.out⟩
  case round =>
    clear HDD HZ HF HB
    obtain ⟨k, q, hk, rfl, rfl, hf, HZ, HF, HB⟩ := hrel
    by_cases hlt : k < L.length
    · have hi0 : (0 : Int) ≤ (k : Int) := by omega
      have hi1 : (k : Int) < (L.length : Int) := by omega
      have hst := any_drop P L k hlt
      cases q with
      | true =>
        have HR : Hid (R = (true || (L.drop (k + 1)).any P)) := hf.out
        clear hf hst
        go_wp2_with fail
        go_quiet (fail)
        go_wp2_with fail
        go_roundw
        case rel => exact ⟨k + 1, true, by omega, rfl, by go_num, HR, HZ.out, HF.out.keep fun _ _ h => h, below_drawn HB.out _⟩
        case measure => simp [intOf]; omega
      | false =>
        obtain ⟨ad, rfl, hc⟩ := HF.out.at_ (by omega)
        obtain ⟨hc0, hc1⟩ := hc k L[k] (List.getElem?_eq_getElem hlt)
        have hc1 := fd_snd hc1
        have HR : Hid (R = (P L[k] || (L.drop (k + 1)).any P)) := by show _ = _; rw [hf.out, hst]; rfl
        rw [HP.out] at HR
        generalize L[k] = x at *
        obtain ⟨xa, xb⟩ := x
        have CX := Lib.hid (fun W => CW.out W (xa, xb))
        unfold tgV at CX
        generalize wekB (xa, xb) (ta, tb) = Q at *
        have HC : Hid (wr.drew.cell? (ad.add (k * 2)) = some (.bool xa) ∧ wr.drew.cell? { block := (ad.add (k * 2)).block, off := (ad.add (k * 2)).off + 1 } = some (.string xb) ∧ wr.drew.cell? ⟨w.heap.size, 0, none⟩ = some (.bool ta) ∧ wr.drew.cell? ⟨w.heap.size, 1, none⟩ = some (.string tb)) := ⟨hc0, hc1, (zero_two HZ.out).1, (zero_two HZ.out).2⟩
        have HB := Lib.hid HB.out.drew
        have HZ : Hid (wr.drew.heap[w.heap.size]? = some (.cells #[.bool ta, .string tb] 49 (0, 0))) := HZ.out
        have HF := Lib.hid HF.out.drew
        clear hf hst hc CW hc0 hc1
        go_wp2_with fail
        go_region_held3 (fun W => W.cell? (ad.add (k * 2)) = some (.bool xa) ∧ W.cell? { block := (ad.add (k * 2)).block, off := (ad.add (k * 2)).off + 1 } = some (.string xb) ∧ W.cell? ⟨w.heap.size, 0, none⟩ = some (.bool ta) ∧ W.cell? ⟨w.heap.size, 1, none⟩ = some (.string tb)) (exact HC.out) (first
          | (go_at_call 51; refine (CX.out _).mono ?_; rintro e w2 ⟨rfl, hb2⟩; have HC : Hid (w2.cell? (ad.add (k * 2)) = some (.bool xa) ∧ w2.cell? { block := (ad.add (k * 2)).block, off := (ad.add (k * 2)).off + 1 } = some (.string xb) ∧ w2.cell? ⟨w.heap.size, 0, none⟩ = some (.bool ta) ∧ w2.cell? ⟨w.heap.size, 1, none⟩ = some (.string tb)) := ⟨cell_kept hb2 HC.out.1, cell_kept hb2 HC.out.2.1, cell_kept hb2 HC.out.2.2.1, cell_kept hb2 HC.out.2.2.2⟩; have HZ := Lib.hid (zero_still hb2 HZ.out); have HF := Lib.hid (HF.out.below hb2); have HB := Lib.hid (below_then HB.out hb2); clear hb2))
        go_wp2_with fail
        go_roundw
        case rel => exact ⟨k + 1, Q, by omega, rfl, by go_num, HR, HZ.out, HF.out, HB.out⟩
        case measure => simp [intOf]; omega
    · have HR : Hid (R = q) := by show _ = _; rw [hf.out, List.drop_eq_nil_of_le (by omega)]; simp
      have hi1 : ¬ (k : Int) < (L.length : Int) := by omega
      clear hf
      go_wp2_with fail
      go_ret
      exact ⟨by rw [HR.out]; rfl, HB.out⟩

end Go.Proofs.YtjkfdjolhmgemaaGreatDoor
end
