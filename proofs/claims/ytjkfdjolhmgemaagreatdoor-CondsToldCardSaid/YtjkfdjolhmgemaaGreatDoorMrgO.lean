/-
  Texts that the laws of this seat lean on, one behind the other.
-/
import Derived.Test.YtjkfdjolhmgemaaGreatDoorMrgN
import Derived.Test.YtjkfdjolhmgemaaGreatDoorMrgE
import Derived.WalkMore
import Derived.Test.YtjkfdjolhmgemaaGreatDoorMrgJ
import Derived.OwnWalk
import Derived.Test.YtjkfdjolhmgemaaGreatDoorMrgI
import Derived.Test.YtjkfdjolhmgemaaGreatDoorMrgK
set_option linter.unusedSimpArgs false
set_option linter.unusedVariables false
/-
  Contract of Split of package items, for every text of at most 1000000000 bytes.
-/
section
namespace Go.Proofs.YtjkfdjolhmgemaaGreatDoor
open Go.RowKit

/-- What Split answers: strings in a slice, and a code. -/
def Strs2 (w : World) (L : List (List UInt8)) (code : Int) (e : Ending) (w' : World) : Prop :=
  ∃ A c, e = .returned (.tuple #[.slice A L.length c, .int .i64 code]) ∧ SlS w' A L.length c L ∧ Head w' A ∧ Below w.heap.size w w'

def cellN (w : World) (Q : Nat) : Nat := match w.cell? ⟨Q, 0, none⟩ with | some v => (intOf v).toNat | none => 0
theorem cellN_at {w : World} {Q k : Nat} (h : w.cell? ⟨Q, 0, none⟩ = some (.int .i64 (k : Int))) : cellN w Q = k := by
  unfold cellN; rw [h]; simp [intOf]

theorem spl_out (l : List UInt8) (L : List (List UInt8)) (h : splitL l = some L) : splO l = L ∧ splE l = 0 := by simp [splO, splE, h]
theorem spl_bad (l : List UInt8) (h : splitL l = none) : splO l = [] ∧ splE l = 5 := by simp [splO, splE, h]


/-- The closure's own two cells, and the list that is gathered. -/
structure Gath (s : ByteArray) (w : World) (B k : Nat) (v : Value) (X : List (List UInt8)) : Prop where
  own : OwnS w (B + 2) 9 v X
  p : w.cell? ⟨B, 0, none⟩ = some (.string s)
  q : w.cell? ⟨B + 1, 0, none⟩ = some (.int .i64 (k : Int))
  fr : w.frozen? ⟨B + 1, 0, none⟩ = false
  sz : B + 2 ≤ w.heap.size
theorem Gath.next {s : ByteArray} {w w2 : World} {B k m : Nat} {v : Value} {X : List (List UInt8)} (h : Gath s w B k v X) (hb : Below w.heap.size w w2) : Gath s (w2.setCell ⟨B + 1, 0, none⟩ (.int .i64 ((m : Int) + 1))) B (m + 1) v X := by
  have hsz := h.sz
  have hs2 := hb.size
  refine ⟨ownsRow_setCell_below (a := ⟨B + 1, 0, none⟩) (h.own.below hb) (by simp) _, ?_, ?_, ?_, by simp [World.setCell]; omega⟩
  · rw [World.cell?_setCell_other (h := by simp)]
    exact (hb.cell (p := ⟨B, 0, none⟩) (by show B < _; omega)).trans h.p
  · rw [World.cell?_setCell_same (h := (hb.cell (p := ⟨B + 1, 0, none⟩) (by show B + 1 < _; omega)).trans h.q)]
    simp
  · rw [World.frozen?_setCell]
    exact (hb.frozen (p := ⟨B + 1, 0, none⟩) (by show B + 1 < _; omega)).trans h.fr
theorem Gath.grown {s : ByteArray} {w w2 : World} {B k : Nat} {v v' : Value} {X X' : List (List UInt8)} (h : Gath s w B k v X) (hb : Below (B + 2) w w2) (hsz2 : B + 2 ≤ w2.heap.size) (ho : OwnS w2 (B + 2) 9 v' X') : Gath s w2 B k v' X' :=
  ⟨ho, (hb.cell (p := ⟨B, 0, none⟩) (by show B < _; omega)).trans h.p, (hb.cell (p := ⟨B + 1, 0, none⟩) (by show B + 1 < _; omega)).trans h.q, (hb.frozen (p := ⟨B + 1, 0, none⟩) (by show B + 1 < _; omega)).trans h.fr, hsz2⟩

set_option maxHeartbeats 1000000 in
set_option maxRecDepth 100000 in
theorem split_any (s : ByteArray) (w : World) (hs : s.size ≤ 1000000000) :
    Calls Tryz.prog 99 #[.string s] w (Strs2 w (splO s.data.toList) (splE s.data.toList)) := by
  go_enter Tryz.func99, Tryz.ntmps99
  go_wp2
  go_step3
  go_wp2_with (go_at_call 125; refine (elements_any s _).mono ?_; rintro e w1 ⟨rfl, rfl⟩)
  go_step3
  go_wp2
  go_loopw [4] (fun v wr => ∃ (k : Nat) (X : List (List UInt8)), k ≤ s.size + 1 ∧ X.length ≤ k ∧ Gath s wr w.heap.size k v X ∧ Hid (splitL s.data.toList = spl 0 [] X (s.data.toList.drop k)) ∧ Below w.heap.size w wr) (fun _ wr => s.size + 1 - cellN wr (w.heap.size + 1))
  case atStart =>
    refine ⟨0, [], by omega, by simp, ⟨OwnS.nil _ _ _, ?_, ?_, ?_, ?_⟩, rfl, ((Below.refl _ _).alloc (Nat.le_refl _) _).alloc (by simp) _⟩
    · go_simp
    · go_simp
    · go_simp
    · simp
  case round =>
    obtain ⟨k, X, hk, hX, hg, hf, hbel⟩ := hrel
    have hsz := hg.sz
    by_cases hlt : k < s.size
    · cases hn : ePos s k with
      | none =>
        have HF := Lib.hid (spl_bad _ (hf.out.trans (spl_none s k X hn)))
        have HC := Lib.hid (next_none s wr hs _ _ k hg.p hg.q hlt hn)
        clear hf hn hg
        go_wp2_with (go_at_call 143; refine (HC.out).mono ?_; rintro e w' ⟨rfl, rfl⟩)
        go_ret2
        rw [HF.out.1, HF.out.2]
        exact ⟨none, 0, rfl, SlS.none_ _, Head.none_ _, hbel⟩
      | some m =>
        have hle := ePos_le s k m hn (by omega)
        have hQ : w.heap.size + 1 < wr.heap.size := by omega
        obtain ⟨T, hT⟩ : ∃ T, T = trimL (piece s k m) := ⟨_, rfl⟩
        have HC := next_some s wr hs w.heap.size (w.heap.size + 1) k m hg.p hg.q hg.fr hQ hlt hn
        rw [← hT] at HC
        have HS := Lib.hid (hf.out.trans (spl_some s k m X hn))
        have HC := Lib.hid HC
        have HK := Lib.hid (cellN_at hg.q)
        have HG := Lib.hid hg
        clear hf hn hg
        by_cases hte : T = []
        · have HA : Hid (splitL s.data.toList = spl 0 [] X (s.data.toList.drop (m + 1))) := by
            have := HS.out
            unfold addE at this
            rwa [← hT, if_pos hte] at this
          have hE : (mkS T).toList.isEmpty = true := by rw [mkS_empty, hte]; rfl
          clear hT HS hte
          go_wp2_with fail
          refine (HC.out).mono ?_
          rintro e w3 ⟨rfl, w2, hb2, hw3⟩
          have hg3 : Gath s w3 w.heap.size (m + 1) u4 X := by rw [← hw3]; exact HG.out.next hb2
          have hb3 : Below w.heap.size w w3 := by rw [← hw3]; exact (hbel.trans (hb2.mono hbel.size)).setCell (p := ⟨w.heap.size + 1, 0, none⟩) (by show _ ≤ w.heap.size + 1; omega) _
          have HG3 := Lib.hid hg3
          clear hw3 hg3
          go_wp2_with fail
          go_roundw
          case rel => exact ⟨m + 1, X, by omega, by omega, HG3.out, HA, hb3⟩
          case measure => rw [HK.out, cellN_at HG3.out.q]; omega
        · have HA : Hid (splitL s.data.toList = spl 0 [] (X ++ [T]) (s.data.toList.drop (m + 1))) := by
            have := HS.out
            unfold addE at this
            rwa [← hT, if_neg hte] at this
          have hE : (mkS T).toList.isEmpty = false := by rw [mkS_empty]; simpa using hte
          clear hT HS hte
          go_wp2_with fail
          refine (HC.out).mono ?_
          rintro e w3 ⟨rfl, w2, hb2, hw3⟩
          have hg3 : Gath s w3 w.heap.size (m + 1) u4 X := by rw [← hw3]; exact HG.out.next hb2
          have hb3 : Below w.heap.size w w3 := by rw [← hw3]; exact (hbel.trans (hb2.mono hbel.size)).setCell (p := ⟨w.heap.size + 1, 0, none⟩) (by show _ ≤ w.heap.size + 1; omega) _
          have HG3 := Lib.hid hg3
          have hs3 := hg3.sz
          clear hw3 hg3
          go_wp2_with (refine wpList_append_sls rfl _ _ _ rfl (w.heap.size + 2) 9 Tryz.underlying64 (by kernel_rfl) _ rfl X (HG3.out.own.alloc _) _ _ _ rfl [T] (SlS.one _ _ _) (by simp; omega) (by simp; omega) w3 ((Below.refl _ _).alloc hs3 _) ?_; intro v' w4 ho4 hb4 hz4)
          go_roundw
          case rel =>
            have hz : w.heap.size + 2 ≤ w4.heap.size := by have := hb4.size; omega
            exact ⟨m + 1, X ++ [T], by omega, by simp; omega, HG3.out.grown hb4 hz ho4.out, HA, hb3.trans (hb4.mono (by omega))⟩
          case measure =>
            have hz : w.heap.size + 2 ≤ w4.heap.size := by have := hb4.size; omega
            rw [HK.out, cellN_at (HG3.out.grown hb4 hz ho4.out).q]; omega
    · have HF := Lib.hid (spl_out _ X (hf.out.trans (spl_end s k X (by omega))))
      obtain ⟨A, c, rfl, hA, hH⟩ := hg.own.sls
      have HC := Lib.hid (next_end s wr _ _ k hg.p hg.q (by omega))
      clear hf hg
      go_wp2_with (go_at_call 143; refine (HC.out).mono ?_; rintro e w' ⟨rfl, rfl⟩)
      go_ret2
      rw [HF.out.1, HF.out.2]
      exact ⟨A, c, rfl, hA, hH, hbel⟩

end Go.Proofs.YtjkfdjolhmgemaaGreatDoor
end

/-
  Contract of the reference's Split (layer 6).
-/
section
namespace Go.Proofs.YtjkfdjolhmgemaaGreatDoor
open Go.RowKit

theorem ext_one (s p : ByteArray) (k : Nat) (h : k < s.size) : (p ++ s.extract k (k + 1)).data.toList = p.data.toList ++ [s[k]] := by
  rw [append_list, piece_ext, mkS_list, piece_snoc s k k (Nat.le_refl _) h, piece_none, List.nil_append]
theorem ext_two (s p : ByteArray) (k : Nat) (h : k + 1 < s.size) : (p ++ s.extract k (k + 2)).data.toList = p.data.toList ++ [s[k]'(by omega), s[k + 1]] := by
  rw [append_list, piece_ext, mkS_list, piece_snoc s k (k + 1) (by omega) h, piece_snoc s k k (Nat.le_refl _) (by omega), piece_none]; simp

/-- How the reference's state stands for the list's. -/
def spb (b : Bool) (p : ByteArray) (X : List (List UInt8)) (s : ByteArray) (k : Nat) : Option (List (List UInt8)) := spl b.toNat p.data.toList X (s.data.toList.drop k)
theorem spb_esc (s p : ByteArray) (X : List (List UInt8)) (k : Nat) (h : k + 1 < s.size) (hc : s[k]'(by omega) = 92) : spb true p X s k = spb true (p ++ s.extract k (k + 2)) X s (k + 2) := by
  unfold spb
  rw [ext_two s p k h, drop_at s k (by omega), drop_at s (k + 1) h, hc]
  simp [spl, nxt_esc, nxt_two]
theorem spb_quote (s p : ByteArray) (X : List (List UInt8)) (b : Bool) (k : Nat) (h : k < s.size) (hc : s[k] = 34) : spb b p X s k = spb (!b) (p ++ s.extract k (k + 1)) X s (k + 1) := by
  unfold spb
  rw [ext_one s p k h, drop_at s k h, hc]
  cases b
  · simp [spl, nxt_open]
  · simp [spl, nxt_close]
theorem spb_comma (s p : ByteArray) (X : List (List UInt8)) (k : Nat) (h : k < s.size) (hc : s[k] = 44) : spb false p X s k = spb false ⟨#[]⟩ (addE X p.data.toList) s (k + 1) := by
  unfold spb
  rw [drop_at s k h, hc]
  simp [spl]
theorem spb_in (s p : ByteArray) (X : List (List UInt8)) (k : Nat) (h : k < s.size) (hc : s[k] ≠ 34) (h92 : s[k] = 92 → ¬ k + 1 < s.size) : spb true p X s k = spb true (p ++ s.extract k (k + 1)) X s (k + 1) := by
  unfold spb
  rw [ext_one s p k h, drop_at s k h]
  by_cases e : s[k] = 92
  · rw [List.drop_eq_nil_of_le (by rw [← Lib.size_eq]; have := h92 e; omega), e]
    simp [spl, nxt_esc]
  · simp [spl, nxt_in hc e]
theorem spb_out (s p : ByteArray) (X : List (List UInt8)) (k : Nat) (h : k < s.size) (hc : s[k] ≠ 34) (h44 : s[k] ≠ 44) : spb false p X s k = spb false (p ++ s.extract k (k + 1)) X s (k + 1) := by
  unfold spb
  rw [ext_one s p k h, drop_at s k h]
  simp [spl, nxt_out hc, h44]
theorem spb_last (s p : ByteArray) (X : List (List UInt8)) (k : Nat) (h : s.size ≤ k) : spb true p X s k = none ∧ spb false p X s k = some (addE X p.data.toList) := by
  unfold spb
  rw [List.drop_eq_nil_of_le (by rw [← Lib.size_eq]; exact h)]
  simp [spl]
theorem addE_keep {X : List (List UInt8)} {p : List UInt8} (h : trimL p = []) : addE X p = X := by simp [addE, h]
theorem addE_more {X : List (List UInt8)} {p T : List UInt8} (h : trimL p = T) (hT : T ≠ []) : addE X p = X ++ [T] := by subst h; simp [addE, hT]
theorem byte3 (c : UInt8) : (c = 34 ∧ ((c.toNat : Int) == 34) = true ∧ ((c.toNat : Int) == 92) = false ∧ ((c.toNat : Int) == 44) = false) ∨ (c = 92 ∧ ((c.toNat : Int) == 34) = false ∧ ((c.toNat : Int) == 92) = true ∧ ((c.toNat : Int) == 44) = false) ∨
    (c = 44 ∧ ((c.toNat : Int) == 34) = false ∧ ((c.toNat : Int) == 92) = false ∧ ((c.toNat : Int) == 44) = true) ∨ ((c ≠ 34 ∧ c ≠ 92 ∧ c ≠ 44) ∧ ((c.toNat : Int) == 34) = false ∧ ((c.toNat : Int) == 92) = false ∧ ((c.toNat : Int) == 44) = false) := by
  by_cases h1 : c = 34
  · subst h1; exact .inl ⟨rfl, rfl, rfl, rfl⟩
  by_cases h2 : c = 92
  · subst h2; exact .inr (.inl ⟨rfl, rfl, rfl, rfl⟩)
  by_cases h3 : c = 44
  · subst h3; exact .inr (.inr (.inl ⟨rfl, rfl, rfl, rfl⟩))
  · refine .inr (.inr (.inr ⟨⟨h1, h2, h3⟩, ?_, ?_, ?_⟩))
    all_goals
      rw [beq_eq_false_iff_ne]
      intro h
      first
        | exact h1 (byte_eq (n := 34) (by omega) (by simpa using h))
        | exact h2 (byte_eq (n := 92) (by omega) (by simpa using h))
        | exact h3 (byte_eq (n := 44) (by omega) (by simpa using h))
theorem xt_size (s p : ByteArray) (k m : Nat) (hm : m ≤ s.size) (hk : k ≤ m) : (p ++ s.extract k m).size = p.size + (m - k) := by simp; omega

/-- As Strs2; what is answered lies in memory of the call's own. -/
def Strs3 (w : World) (L : List (List UInt8)) (code : Int) (e : Ending) (w' : World) : Prop :=
  ∃ A c, e = .returned (.tuple #[.slice A L.length c, .int .i64 code]) ∧ SlS w' A L.length c L ∧ Head w' A ∧ (∀ ad, A = some ad → w.heap.size ≤ ad.block) ∧ Below w.heap.size w w'
theorem OwnS.fresh {w : World} {base e n c : Nat} {A : Option Addr} {X : List (List UInt8)} (h : OwnS w base e (.slice A n c) X) : ∀ ad, A = some ad → base ≤ ad.block := fun ad ha => by
  rcases h.2 with ⟨h1, _⟩ | ⟨g, cap, cur, h1, h2, _⟩
  · cases h1; cases ha
  · cases h1; cases ha; exact h2
set_option maxHeartbeats 2000000 in
set_option maxRecDepth 100000 in
theorem r_split_f (s : ByteArray) (w : World) (hs : s.size ≤ 100000000) :
    Calls Tryz.prog 100 #[.string s] w (Strs3 w (splO s.data.toList) (splE s.data.toList)) := by
  go_enter Tryz.func100, Tryz.ntmps100
  go_wp2
  go_loopw [4, 5, 6, 7] (fun v p q i wr => ∃ (k : Nat) (b : Bool) (P : ByteArray) (X : List (List UInt8)), k ≤ s.size ∧ P.size ≤ k ∧ X.length ≤ k ∧ p = .string P ∧ q = .bool b ∧ i = .int .i64 k ∧ Hid (OwnS wr w.heap.size 9 v X) ∧ Hid (splitL s.data.toList = spb b P X s k) ∧ Below w.heap.size w wr) (fun _ _ _ i _ => s.size - (intOf i).toNat)
  case atStart => exact ⟨0, false, ⟨#[]⟩, [], Nat.zero_le _, Nat.zero_le _, Nat.zero_le _, rfl, rfl, rfl, OwnS.nil _ _ _, rfl, Below.refl _ _⟩
  case round =>
    obtain ⟨k, b, P, X, hk, hP, hX, rfl, rfl, rfl, ho, hf, hbel⟩ := hrel
    have hzr := hbel.size
    by_cases hlt : k < s.size
    · have hx1 : (k : Int) + 1 ≤ (s.size : Int) := by omega
      have hx0 : (k : Int) ≤ (k : Int) + 1 := by omega
      rcases byte3 s[k] with ⟨hc, e1, e2, e3⟩ | ⟨hc, e1, e2, e3⟩ | ⟨hc, e1, e2, e3⟩ | ⟨hc, e1, e2, e3⟩
      · have HN : Hid (splitL s.data.toList = spb (!b) (P ++ s.extract k (k + 1)) X s (k + 1)) := hf.out.trans (spb_quote s P X b k hlt hc)
        have hsz : (P ++ s.extract k (k + 1)).size ≤ k + 1 := by rw [xt_size s P k (k + 1) (by omega) (by omega)]; omega
        clear hf hc
        cases b
        all_goals
          go_wp2
          go_roundw
          case rel => exact ⟨k + 1, _, _, X, by omega, hsz, by omega, rfl, rfl, by go_num, ho, HN, hbel⟩
          case measure => simp [intOf]; omega
      · cases b with
        | true =>
          by_cases h2 : k + 1 < s.size
          · have hx2 : (k : Int) + 2 ≤ (s.size : Int) := by omega
            have hx3 : (k : Int) ≤ (k : Int) + 2 := by omega
            have HN : Hid (splitL s.data.toList = spb true (P ++ s.extract k (k + 2)) X s (k + 2)) := hf.out.trans (spb_esc s P X k h2 hc)
            have hsz : (P ++ s.extract k (k + 2)).size ≤ k + 2 := by rw [xt_size s P k (k + 2) (by omega) (by omega)]; omega
            clear hf hc
            go_wp2
            go_roundw
            case rel => exact ⟨k + 2, _, _, X, by omega, hsz, by omega, rfl, rfl, by go_num, ho, HN, hbel⟩
            case measure => simp [intOf]; omega
          · have HN : Hid (splitL s.data.toList = spb true (P ++ s.extract k (k + 1)) X s (k + 1)) := hf.out.trans (spb_in s P X k hlt (by rw [hc]; decide) (fun _ => h2))
            have hsz : (P ++ s.extract k (k + 1)).size ≤ k + 1 := by rw [xt_size s P k (k + 1) (by omega) (by omega)]; omega
            clear hf hc
            go_wp2
            go_roundw
            case rel => exact ⟨k + 1, _, _, X, by omega, hsz, by omega, rfl, rfl, by go_num, ho, HN, hbel⟩
            case measure => simp [intOf]; omega
        | false =>
          have HN : Hid (splitL s.data.toList = spb false (P ++ s.extract k (k + 1)) X s (k + 1)) := hf.out.trans (spb_out s P X k hlt (by rw [hc]; decide) (by rw [hc]; decide))
          have hsz : (P ++ s.extract k (k + 1)).size ≤ k + 1 := by rw [xt_size s P k (k + 1) (by omega) (by omega)]; omega
          clear hf hc
          go_wp2
          go_roundw
          case rel => exact ⟨k + 1, _, _, X, by omega, hsz, by omega, rfl, rfl, by go_num, ho, HN, hbel⟩
          case measure => simp [intOf]; omega
      · cases b with
        | true =>
          have HN : Hid (splitL s.data.toList = spb true (P ++ s.extract k (k + 1)) X s (k + 1)) := hf.out.trans (spb_in s P X k hlt (by rw [hc]; decide) (fun h => by rw [hc] at h; exact absurd h (by decide)))
          have hsz : (P ++ s.extract k (k + 1)).size ≤ k + 1 := by rw [xt_size s P k (k + 1) (by omega) (by omega)]; omega
          clear hf hc
          go_wp2
          go_roundw
          case rel => exact ⟨k + 1, _, _, X, by omega, hsz, by omega, rfl, rfl, by go_num, ho, HN, hbel⟩
          case measure => simp [intOf]; omega
        | false =>
          have HS := hf.out.trans (spb_comma s P X k hlt hc)
          have hm : P.size ≤ maxLen := by unfold maxLen; omega
          obtain ⟨T, hT⟩ : ∃ T, trimL P.data.toList = T := ⟨_, rfl⟩
          have HT := Lib.hid hT
          by_cases hte : T = []
          · rw [addE_keep (hT.trans hte)] at HS
            have HN := Lib.hid HS
            have hE : (mkS T).toList.isEmpty = true := by rw [mkS_empty, hte]; rfl
            clear hf hc HS hT hte
            go_wp2_with (go_at_call 63; refine (r_trim P _ hm).mono ?_; rintro e w' ⟨he, rfl⟩; rw [HT.out] at he; subst he)
            go_roundw
            case rel => exact ⟨k + 1, _, _, X, by omega, Nat.zero_le _, by omega, rfl, rfl, by go_num, ho, HN, hbel⟩
            case measure => simp [intOf]; omega
          · rw [addE_more hT hte] at HS
            have HN := Lib.hid HS
            have hE : (mkS T).toList.isEmpty = false := by rw [mkS_empty]; simpa using hte
            clear hf hc HS hT hte
            go_wp2_with (first
              | (go_at_call 63; refine (r_trim P _ hm).mono ?_; rintro e w' ⟨he, rfl⟩; rw [HT.out] at he; subst he)
              | (at_builtin; refine wpList_append_sls rfl _ _ _ rfl w.heap.size 9 Tryz.underlying64 (by kernel_rfl) _ rfl X (ho.out.alloc _) _ _ _ rfl [T] (SlS.one _ _ _) (by simp; omega) (by simp; omega) w (hbel.alloc hzr _) ?_; intro v1 w1 ho1 hb1 hz1))
            go_roundw
            case rel => exact ⟨k + 1, _, _, X ++ [T], by omega, Nat.zero_le _, by simp; omega, rfl, rfl, by go_num, ho1, HN, hb1⟩
            case measure => simp [intOf]; omega
      · have HN : Hid (splitL s.data.toList = spb b (P ++ s.extract k (k + 1)) X s (k + 1)) := by
          cases b
          · exact hf.out.trans (spb_out s P X k hlt hc.1 hc.2.2)
          · exact hf.out.trans (spb_in s P X k hlt hc.1 (fun h => absurd h hc.2.1))
        have hsz : (P ++ s.extract k (k + 1)).size ≤ k + 1 := by rw [xt_size s P k (k + 1) (by omega) (by omega)]; omega
        clear hf hc
        cases b
        all_goals
          go_wp2
          go_roundw
          case rel => exact ⟨k + 1, _, _, X, by omega, hsz, by omega, rfl, rfl, by go_num, ho, HN, hbel⟩
          case measure => simp [intOf]; omega
    · have hlast := spb_last s P X k (by omega)
      cases b with
      | true =>
        have HF := Lib.hid (spl_bad _ (hf.out.trans hlast.1))
        clear hf hlast
        go_wp2
        go_ret2
        rw [HF.out.1, HF.out.2]
        exact ⟨none, 0, rfl, SlS.none_ _, Head.none_ _, (fun _ h => by cases h), hbel⟩
      | false =>
        have HS := spl_out _ _ (hf.out.trans hlast.2)
        have hm : P.size ≤ maxLen := by unfold maxLen; omega
        obtain ⟨T, hT⟩ : ∃ T, trimL P.data.toList = T := ⟨_, rfl⟩
        have HT := Lib.hid hT
        by_cases hte : T = []
        · rw [addE_keep (hT.trans hte)] at HS
          have HF := Lib.hid HS
          have hE : (mkS T).toList.isEmpty = true := by rw [mkS_empty, hte]; rfl
          obtain ⟨A, c, rfl, hA, hH⟩ := ho.out.sls
          clear hf hlast HS hT hte
          go_wp2_with (go_at_call 63; refine (r_trim P _ hm).mono ?_; rintro e w' ⟨he, rfl⟩; rw [HT.out] at he; subst he)
          go_ret2
          rw [HF.out.1, HF.out.2]
          exact ⟨A, c, rfl, hA, hH, ho.out.fresh, hbel⟩
        · rw [addE_more hT hte] at HS
          have HF := Lib.hid HS
          have hE : (mkS T).toList.isEmpty = false := by rw [mkS_empty]; simpa using hte
          clear hf hlast HS hT hte
          go_wp2_with (first
            | (go_at_call 63; refine (r_trim P _ hm).mono ?_; rintro e w' ⟨he, rfl⟩; rw [HT.out] at he; subst he)
            | (at_builtin; refine wpList_append_sls rfl _ _ _ rfl w.heap.size 9 Tryz.underlying64 (by kernel_rfl) _ rfl X (ho.out.alloc _) _ _ _ rfl [T] (SlS.one _ _ _) (by simp; omega) (by simp; omega) w (hbel.alloc hzr _) ?_; intro v1 w1 ho1 hb1 hz1))
          go_ret2
          rw [HF.out.1, HF.out.2]
          obtain ⟨A, c, rfl, hA, hH⟩ := ho1.out.sls
          exact ⟨A, c, rfl, hA, hH, ho1.out.fresh, hb1⟩

end Go.Proofs.YtjkfdjolhmgemaaGreatDoor
end

/-
  Contracts of Quote, unescape and Unquote of package items.
-/
section
namespace Go.Proofs.YtjkfdjolhmgemaaGreatDoor
open Go.RowKit

end Go.Proofs.YtjkfdjolhmgemaaGreatDoor
end

/-
  Contracts of value and Param of package items.
-/
section
namespace Go.Proofs.YtjkfdjolhmgemaaGreatDoor
open Go.RowKit

def isTok (x : ByteArray) : Bool := !x.toList.isEmpty && allB tokB x.data.toList
def valO (z : ByteArray) : ByteArray := if isTok z then z else mkS (unqO z.data.toList)
def valE (z : ByteArray) : Int := if isTok z then 0 else unqE z.data.toList
def parE (s : ByteArray) : Int := if isTok (cutA s 61) then (if cutOk s 61 then valE (cutZ s 61) else 0) else 5
def parN (s : ByteArray) : ByteArray := if parE s = 0 then mkS (lowL (cutA s 61).data.toList) else ⟨#[]⟩
def parV (s : ByteArray) : ByteArray := if parE s = 0 ∧ cutOk s 61 = true then valO (cutZ s 61) else ⟨#[]⟩
def parH (s : ByteArray) : Bool := if parE s = 0 then cutOk s 61 else false
end Go.Proofs.YtjkfdjolhmgemaaGreatDoor
end

/-
  Contracts of the reference's Unquote and Param (layer 6).
-/
section
namespace Go.Proofs.YtjkfdjolhmgemaaGreatDoor
open Go.RowKit

/-- How the reference's state stands for the list's. -/
def unb (p s : ByteArray) (k : Nat) : Option (List UInt8) := unqR 1 p.data.toList (s.data.toList.drop k)
end Go.Proofs.YtjkfdjolhmgemaaGreatDoor
end
