/-
  strings.Split and strings.Join at "/": contracts in plain lists.
-/
import Derived.Test.YtcmppmbieebkpaaGreatDoorShTgt
import Derived.Test.YtcmppmbieebkpaaGreatDoorComQ
import Derived.Test.YtcmppmbieebkpaaGreatDoorTarM
import Derived.Lib.SplitLaws
import Derived.Lib.IndexLaws
import Derived.Lib.Join
namespace Go.Proofs.YtcmppmbieebkpaaGreatDoor
open Go.RowKit Go.Shelf

theorem splitK_slash : ∀ (n : Nat) (l : List UInt8) (k : Nat), l.length ≤ n → l.count 47 ≤ k → Lib.splitK [47] 0 k l = spS l
  | n, l, k, hn, hk => by
    have hidx := Lib.index_one l 47
    by_cases h : Lib.indexByte l 47 = -1
    · have hns : NoSl l := fun c hc e => by
        obtain ⟨j, hj, hjc⟩ := List.getElem_of_mem hc
        exact Lib.indexByte_none h j (by rw [List.getElem?_eq_getElem hj, hjc, e])
      rw [sp_last hns]
      cases k with
      | zero => rfl
      | succ k => unfold Lib.splitK; rw [hidx, h]; rfl
    · have h0 := Lib.indexByte_ge l 47
      obtain ⟨i, hi⟩ := Int.eq_ofNat_of_zero_le (show 0 ≤ Lib.indexByte l 47 by omega)
      obtain ⟨h1, h2⟩ := Lib.indexByte_some hi
      obtain ⟨hlt, h3⟩ := List.getElem?_eq_some_iff.1 h1
      have hl : l = l.take i ++ 47 :: l.drop (i + 1) := by
        conv => lhs; rw [← List.take_append_drop i l, List.drop_eq_getElem_cons hlt, h3]
      have hns : NoSl (l.take i) := fun c hc e => by
        obtain ⟨j, hj, hjc⟩ := List.getElem_of_mem hc
        rw [List.length_take] at hj
        refine h2 j (by omega) ?_
        rw [List.getElem_take] at hjc
        rw [List.getElem?_eq_getElem (by omega), hjc, e]
      have hc : l.count 47 = (l.take i).count 47 + ((l.drop (i + 1)).count 47 + 1) := by
        conv => lhs; rw [hl]
        rw [List.count_append, List.count_cons_self]
      cases k with
      | zero => omega
      | succ k =>
        cases n with
        | zero => have : l = [] := List.eq_nil_of_length_eq_zero (by omega); rw [this] at hlt; simp at hlt
        | succ n =>
          have ih := splitK_slash n (l.drop (i + 1)) k (by rw [List.length_drop]; omega) (by omega)
          conv => rhs; rw [hl, sp_part hns]
          unfold Lib.splitK
          rw [hidx, hi]
          rw [if_neg (by simp)]
          show List.take (((i : Int)).toNat + 0) l :: Lib.splitK [47] 0 k (List.drop (((i : Int)).toNat + 1) l) = _
          rw [Int.toNat_natCast, Nat.add_zero, ih]

theorem join_slash : ∀ (x : List UInt8) (L : List (List UInt8)), Lib.join (x :: L) [47] = x ++ joinS L
  | x, L => by
    rw [Lib.join_cons]
    rfl

theorem count_slash (s : ByteArray) : Lib.countB s ⟨#[47]⟩ = s.data.toList.count 47 := Lib.count_one 47 s.data.toList

set_option maxHeartbeats 1000000 in
set_option maxRecDepth 100000 in
theorem split_slash (s : ByteArray) (w : World) (hs : s.size ≤ 1000000000) :
    Calls Tryz.prog 43 #[.string s, .string ⟨#[47]⟩] w fun e w' =>
      e = .returned (.slice (some ⟨w.heap.size, 0, none⟩) (spS s.data.toList).length (spS s.data.toList).length) ∧ SlS w' (some ⟨w.heap.size, 0, none⟩) (spS s.data.toList).length (spS s.data.toList).length (spS s.data.toList) ∧ Below w.heap.size w w' := by
  have hle := Lib.countB_le ⟨#[47]⟩ (by decide) s.size s (Nat.le_refl _)
  have hlen := Lib.splitB_all ⟨#[47]⟩ (by decide) 0 _ s rfl
  have hdata := Lib.splitB_data ⟨#[47]⟩ 0 (Lib.countB s ⟨#[47]⟩) s
  have hsp : Lib.splitK [47] 0 (Lib.countB s ⟨#[47]⟩) s.data.toList = spS s.data.toList := splitK_slash _ _ _ (Nat.le_refl _) (by rw [count_slash]; exact Nat.le_refl _)
  have c := Any.strings_genSplit_core { Tryz.lays146 with } (by kernel_rfl) s ⟨#[47]⟩ 0 (-1) (Lib.countB s ⟨#[47]⟩ + 1) w (by omega) (by decide) (Nat.zero_le _)
    (fun x cs _ => (Tryz.strings_Index_one x 47 _).mono fun e w' ⟨h1, h2⟩ => ⟨by rw [h1]; congr 2; exact (Lib.index_one x.data.toList 47).symm, h2⟩)
    ((Tryz.strings_Count_one s 47 w).mono fun e w' ⟨h1, h2⟩ => ⟨by rw [h1, count_slash]; rfl, h2⟩) (by decide) (by decide) (by rw [if_pos (by decide)]; omega)
  rw [Nat.add_sub_cancel, hlen] at c
  have e2 : Lib.cellsOf (Lib.splitB ⟨#[47]⟩ 0 (Lib.countB s ⟨#[47]⟩) s) (Lib.countB s ⟨#[47]⟩ + 1) = ((Lib.splitB ⟨#[47]⟩ 0 (Lib.countB s ⟨#[47]⟩) s).map Value.string).toArray := by rw [← hlen]; exact Lib.cellsOf_full _
  rw [e2] at c
  have hL : (spS s.data.toList).length = Lib.countB s ⟨#[47]⟩ + 1 := by
    rw [← hsp, ← hlen, ← List.length_map (f := fun x : ByteArray => x.data.toList), hdata]
  have hS := SlS.texts w 9 (Lib.splitB ⟨#[47]⟩ 0 (Lib.countB s ⟨#[47]⟩) s) (by rw [hlen]; unfold maxLen; omega)
  rw [hdata, show (⟨#[47]⟩ : ByteArray).data.toList = [47] from rfl, hsp, hlen] at hS
  rw [hL]
  have C := Lib.hid c
  have HS := Lib.hid hS
  clear c hS hsp hdata hlen e2 hle
  go_enter Tryz.func43, Tryz.ntmps43
  go_wp2_with (go_at_call 66; refine (C.out).mono ?_; rintro e w' ⟨rfl, rfl⟩)
  go_ret
  exact ⟨rfl, HS.out, (Below.refl _ _).alloc (Nat.le_refl _) _⟩

set_option maxHeartbeats 1000000 in
set_option maxRecDepth 100000 in
theorem join_slash_any (A : Option Addr) (n c : Nat) (L : List (List UInt8)) (w : World) (h : SlS w A n c L) (hH : Head w A) (hn : n ≤ 1000000000) (hl : (Lib.join L [47]).length ≤ 1000000000000) :
    Calls Tryz.prog 44 #[.slice A n c, .string ⟨#[47]⟩] w fun e w' => e = .returned (.string (mkS (Lib.join L [47]))) ∧ Below w.heap.size w w' := by
  rcases Nat.eq_zero_or_pos n with h0 | h0
  · have hL : L = [] := List.eq_nil_of_length_eq_zero (by rw [h.len]; exact h0)
    subst hL h0
    refine (Tryz.strings_Join_none A c _ w).mono ?_
    rintro e w' ⟨rfl, rfl⟩
    exact ⟨rfl, Below.refl _ _⟩
  · have hlen := h.len
    subst hlen
    obtain ⟨ad, hA, hc⟩ := h.at_ h0
    rcases hH with hH | ⟨g, hg, hH⟩
    · rw [hH] at hA; cases hA
    rw [hH] at hA
    cases hA
    subst hH
    have hm : (L.map mkS).map (·.data.toList) = L := by
      have e : ((fun x : ByteArray => x.data.toList) ∘ mkS) = id := by funext x; rfl
      rw [List.map_map, e, List.map_id]
    have J := Tryz.strings_Join g 0 c (L.map mkS) ⟨#[47]⟩ w (fun j x hx => by
      rw [List.getElem?_map, Option.map_eq_some_iff] at hx
      obtain ⟨y, hy, rfl⟩ := hx
      have := hc j y hy
      rw [addr_add] at this
      rw [Nat.zero_add]
      exact this) hg (by simp; omega) (by simpa using h.cap) (by rw [hm]; exact Nat.le_trans hl (by decide))
    rw [hm, List.length_map] at J
    exact J

end Go.Proofs.YtcmppmbieebkpaaGreatDoor
