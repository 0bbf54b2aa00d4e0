/-
  Texts that the laws of this seat lean on, one behind the other.
-/
import Derived.Test.YtmkjjidilfhojaaDoorMrgAB
import Derived.Shelf.Abstract
/-
  Contracts of package fields' choose and of slices.IndexFunc and ContainsFunc on fields, for any test that is handed in.
-/
section
namespace Go.Proofs.YtmkjjidilfhojaaDoor
open Go.RowKit

/-- A test of fields: function g with the captured cells caps answers p. -/
def PredF (w : World) (g : Nat) (caps : Array Value) (p : Fd → Bool) : Prop :=
  ∀ (W : World) (x : Fd), Below w.heap.size w W → Bd x → Calls Tryd.prog g (#[fdV x] ++ caps) W fun e w' => e = .returned (.bool (p x)) ∧ Below W.heap.size W w'

theorem choose_any (A : Option Addr) (n c : Nat) (L : List Fd) (w : World) (h : SlF w A n c L) (hn : n ≤ 100000000) (hB : ∀ x ∈ L, Bd x) (g : Nat) (caps : Array Value) (p : Fd → Bool)
    (eg : ∀ args W, (callFunc g args).run Tryd.prog W = .ok (.enter g args) W) (hp : PredF w g caps p) :
    Calls Tryd.prog 31 #[.slice A n c, .func (.func g) #[] caps] w fun e w' => ∃ v, e = .returned v ∧ OwnF w' w.heap.size 33 v (L.filter p) ∧ Below w.heap.size w w' := by
  have hlen := h.len
  subst hlen
  have HP := Lib.hid hp
  clear hp
  go_enter Tryd.func31, Tryd.ntmps31
  go_wp2_with fail
  go_loopw [5, 10] (fun v i wr => ∃ k : Nat, k ≤ L.length ∧ i = .int .i64 k ∧ Hid (OwnF wr w.heap.size 33 v ((L.take k).filter p)) ∧ Below w.heap.size w wr) (fun _ i _ => L.length - (intOf i).toNat)
  case atStart => exact ⟨0, Nat.zero_le _, rfl, OwnF.nil _ _ _, Below.refl _ _⟩
  case round =>
    obtain ⟨k, hk, rfl, hown, hbel⟩ := hrel
    by_cases hlt : k < L.length
    · obtain ⟨ad, rfl, hc⟩ := h.at_ (by omega)
      obtain ⟨hc0, hc1⟩ := hc k L[k] (List.getElem?_eq_getElem hlt)
      have hcell0 := cell_kept hbel hc0
      have hcell1 := fd_snd (cell_kept hbel hc1)
      obtain ⟨hz1, hz2⟩ := h.sz _ (List.getElem_mem hlt)
      have hbd := hB _ (List.getElem_mem hlt)
      have HS := take_fd L k hlt
      generalize L[k] = x at *
      obtain ⟨a, b⟩ := x
      have HF := filter_snoc p (L.take k) (a, b)
      rw [← HS] at HF
      clear HS hc hc0 hc1
      have hl2 : ((L.take k).filter p).length ≤ k := Nat.le_trans (List.length_filter_le _ _) (by rw [List.length_take]; omega)
      generalize hX : (L.take k).filter p = X at *
      have hcall := HP.out (wr.alloc (.cells #[.string a, .string b] 33)) (a, b) (hbel.alloc hbel.size _) hbd
      unfold fdV at hcall
      have HC := Lib.hid hcall
      clear hcall
      have hsz1 := hbel.size
      cases hq : p (a, b) with
      | true =>
        rw [hq, if_pos rfl] at HF
        rw [hq] at HC
        have HR := Lib.hid HF
        clear HF hq
        go_wp2_with fail
        refine HC.out.mono ?_
        rintro e w1 ⟨rfl, hb1⟩
        have HZ := Lib.hid (zero_at hb1)
        have HB := Lib.hid (zero_then hb1)
        have HO := Lib.hid (hown.out.below HB.out)
        have hs1 := HB.out.size
        obtain ⟨z0, z1⟩ := zero_two HZ.out
        clear hb1 hown HC
        go_wp2_with (at_builtin; refine wpList_append_slf rfl _ _ _ rfl w.heap.size 33 Tryd.underlying22 (by kernel_rfl) _ rfl X (HO.out.alloc _) _ _ _ rfl [(a, b)] (SlF.one _ _ (a, b) ⟨hz1, hz2⟩) (by simp; omega) (by simp; omega) w ((hbel.trans (HB.out.mono hsz1)).alloc (by omega) _) ?_; intro v1 w2 ho2 hb2 hz2)
        go_roundw
        case rel => exact ⟨k + 1, by omega, by go_num, by show OwnF _ _ _ _ _; rw [HR.out]; exact ho2.out, hb2⟩
        case measure => simp [intOf]; omega
      | false =>
        rw [hq, if_neg (by simp)] at HF
        rw [hq] at HC
        have HR := Lib.hid HF
        clear HF hq
        go_wp2_with fail
        refine HC.out.mono ?_
        rintro e w1 ⟨rfl, hb1⟩
        have HB := Lib.hid (zero_then hb1)
        clear hb1
        go_wp2_with fail
        go_roundw
        case rel => exact ⟨k + 1, by omega, by go_num, by show OwnF _ _ _ _ _; rw [HR.out]; exact hown.out.below HB.out, hbel.trans (HB.out.mono hsz1)⟩
        case measure => simp [intOf]; omega
    · have HE : Hid ((L.take k).filter p = L.filter p) := by
        show _ = _
        rw [List.take_of_length_le (by omega)]
      rw [HE.out] at hown
      go_wp2_with fail
      go_ret
      exact ⟨_, rfl, hown.out, hbel⟩

end Go.Proofs.YtmkjjidilfhojaaDoor
end
