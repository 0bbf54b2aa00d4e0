/-
  Texts that the laws of this seat lean on, one behind the other.
-/
import Derived.Test.YtfmaaghmbnhikaaGreatDoorMrgT
import Derived.Test.YtfmaaghmbnhikaaGreatDoorMrgM
import Derived.Test.YtfmaaghmbnhikaaGreatDoorMrgW
import Derived.Deep.QuietTactic
import Derived.BigQuiet
/-
  Contracts of Has and Join of package items.
-/
section
namespace Go.Proofs.YtfmaaghmbnhikaaGreatDoor
open Go.RowKit

def hasL (L : List (List UInt8)) (name : ByteArray) : Bool := L.any fun x => sameB (mkS x) name

theorem join_any (A : Option Addr) (n c : Nat) (L : List (List UInt8)) (w : World) (h : SlS w A n c L) (hH : Head w A) (hn : n ≤ 1000000000) (hl : (Lib.join L [44, 32]).length ≤ 1000000000000) :
    Calls Tryz.prog 54 #[.slice A n c] w fun e w' => e = .returned (.string (mkS (Lib.join L [44, 32]))) ∧ Below w.heap.size w w' := by
  rcases Nat.eq_zero_or_pos n with h0 | h0
  · have hL : L = [] := List.eq_nil_of_length_eq_zero (by rw [h.len]; exact h0)
    subst hL h0
    go_enter Tryz.func54, Tryz.ntmps54
    go_wp2_with fail
    refine (Tryz.strings_Join_none A c _ w).mono ?_
    rintro e w' ⟨rfl, rfl⟩
    go_wp2_with fail
    go_ret
    exact ⟨rfl, Below.refl _ _⟩
  · have hlen := h.len
    subst hlen
    obtain ⟨ad, hA, hc⟩ := h.at_ h0
    rcases hH with hH | ⟨g, hg, hH⟩
    · rw [hH] at hA; cases hA
    rw [hH] at hA
    cases hA
    subst hH
    have hm : (L.map mkS).map (·.data.toList) = L := by
      have e : ((fun x : ByteArray => x.data.toList) ∘ mkS) = id := by funext x; rfl
      rw [List.map_map, e, List.map_id]
    have J := Tryz.strings_Join g 0 c (L.map mkS) ⟨#[44, 32]⟩ w (fun j x hx => by
      rw [List.getElem?_map, Option.map_eq_some_iff] at hx
      obtain ⟨y, hy, rfl⟩ := hx
      have := hc j y hy
      rw [addr_add] at this
      rw [Nat.zero_add]
      exact this) hg (by simp; omega) (by simpa using h.cap) (by rw [hm]; exact Nat.le_trans hl (by decide))
    rw [hm, List.length_map] at J
    have HJ := Lib.hid J
    clear J hm hc
    go_enter Tryz.func54, Tryz.ntmps54
    go_wp2_with fail
    refine HJ.out.mono ?_
    rintro e w' ⟨rfl, hb⟩
    go_wp2_with fail
    go_ret
    exact ⟨rfl, hb⟩

end Go.Proofs.YtfmaaghmbnhikaaGreatDoor
end

/-
  Contracts of the reference's Join, Has, Quote and Same (layer 6).
-/
section
namespace Go.Proofs.YtfmaaghmbnhikaaGreatDoor
open Go.RowKit

theorem join_snoc (l : List (List UInt8)) (x sep : List UInt8) : Lib.join (l ++ [x]) sep = if l = [] then x else Lib.join l sep ++ sep ++ x := by
  cases l with
  | nil => simp [Lib.join_one]
  | cons a r =>
    rw [List.cons_append, Lib.join_cons, Lib.join_cons, if_neg (by simp)]
    simp [Lib.joinTail]
theorem take_list (L : List (List UInt8)) (k : Nat) (h : k < L.length) : L.take (k + 1) = L.take k ++ [L[k]] := List.take_succ_eq_append_getElem h

end Go.Proofs.YtfmaaghmbnhikaaGreatDoor
end
