/-
  Contracts of package etag's Text, Strong, Weak, and of slices.IndexFunc and ContainsFunc on tags, for any test that is handed in.
-/
import Derived.Test.YtdaoliobmgcmoaaEtpB
import Derived.Shelf.Abstract
namespace Go.Proofs.Ytdaoliobmgcmoaa
open Go.RowKit
set_option linter.unusedSimpArgs false

theorem etS_any (a : Tg) (h : a.2.size ≤ 1000000000) (w : World) :
    Calls Try.prog 15 #[tgV a] w fun e w' => e = .returned (.string (tgS a)) ∧ Below w.heap.size w w' := by
  obtain ⟨a1, a2⟩ := a
  unfold tgV
  have hb : Below w.heap.size w (w.alloc (.cells #[.bool a1, .string a2] 23)) := (Below.refl _ _).alloc (Nat.le_refl _) _
  have hA : (w.alloc (.cells #[.bool a1, .string a2] 23)).heap[w.heap.size]? = some (.cells #[.bool a1, .string a2] 23 (0, 0)) := heap_alloc_new w _
  obtain ⟨hA0, hA1⟩ := zero_two hA
  have hs : a2.size ≤ 1000000000 := h
  have HB := Lib.hid hb
  have z1 : ((⟨#[34]⟩ : ByteArray) ++ a2).size = 1 + a2.size := by rw [ByteArray.size_append]; rfl
  have z2 : ((⟨#[34]⟩ : ByteArray) ++ a2 ++ (⟨#[34]⟩ : ByteArray)).size = 1 + a2.size + 1 := by rw [ByteArray.size_append, z1]; rfl
  have k1 : ¬ 9223372036854775807 < 1 + a2.size := by omega
  have k2 : ¬ 9223372036854775807 < 1 + a2.size + 1 := by omega
  have k3 : ¬ 9223372036854775807 < 2 + (1 + a2.size + 1) := by omega
  clear hb hA h
  cases a1
  · have hr : tgS (false, a2) = (⟨#[34]⟩ : ByteArray) ++ a2 ++ (⟨#[34]⟩ : ByteArray) := rfl
    rw [hr]
    clear hr
    go_enter Try.func15, Try.ntmps15
    go_wp2_with fail
    go_ret
    exact ⟨rfl, HB.out⟩
  · have hr : tgS (true, a2) = (⟨#[87, 47]⟩ : ByteArray) ++ ((⟨#[34]⟩ : ByteArray) ++ a2 ++ (⟨#[34]⟩ : ByteArray)) := by
      show (⟨#[87, 47, 34]⟩ : ByteArray) ++ a2 ++ (⟨#[34]⟩ : ByteArray) = _
      rw [← ByteArray.append_assoc, ← ByteArray.append_assoc]
      rfl
    rw [hr]
    clear hr
    go_enter Try.func15, Try.ntmps15
    go_wp2_with fail
    go_ret
    exact ⟨rfl, HB.out⟩

theorem etW_any (a b : Tg) (w : World) :
    Calls Try.prog 19 #[tgV a, tgV b] w fun e w' => e = .returned (.bool (wekB a b)) ∧ Below w.heap.size w w' := by
  obtain ⟨a1, a2⟩ := a
  obtain ⟨b1, b2⟩ := b
  have hr : wekB (a1, a2) (b1, b2) = (a2.toList == b2.toList) := rfl
  rw [hr]
  unfold tgV
  have hb : Below w.heap.size w ((w.alloc (.cells #[.bool a1, .string a2] 23)).alloc (.cells #[.bool b1, .string b2] 23)) := ((Below.refl _ _).alloc (Nat.le_refl _) _).alloc (by simp) _
  have hA : ((w.alloc (.cells #[.bool a1, .string a2] 23)).alloc (.cells #[.bool b1, .string b2] 23)).heap[w.heap.size]? = some (.cells #[.bool a1, .string a2] 23 (0, 0)) := zero_more (heap_alloc_new w _)
  have hB : ((w.alloc (.cells #[.bool a1, .string a2] 23)).alloc (.cells #[.bool b1, .string b2] 23)).heap[w.heap.size + 1]? = some (.cells #[.bool b1, .string b2] 23 (0, 0)) := by
    have := heap_alloc_new (w.alloc (.cells #[.bool a1, .string a2] 23)) (.cells #[.bool b1, .string b2] 23)
    rwa [show (w.alloc (.cells #[.bool a1, .string a2] 23)).heap.size = w.heap.size + 1 by simp] at this
  have hA := (zero_two hA).2
  have hB := (zero_two hB).2
  have HB := Lib.hid hb
  clear hb hr
  go_enter Try.func19, Try.ntmps19
  go_wp2_with fail
  go_ret
  exact ⟨rfl, HB.out⟩

theorem etT_any (a b : Tg) (w : World) :
    Calls Try.prog 17 #[tgV a, tgV b] w fun e w' => e = .returned (.bool (strB a b)) ∧ Below w.heap.size w w' := by
  have both : ∀ t : Bool, t = true ∨ t = false := fun t => by cases t <;> simp
  obtain ⟨a1, a2⟩ := a
  obtain ⟨b1, b2⟩ := b
  have hr : strB (a1, a2) (b1, b2) = (!a1 && !b1 && (a2.toList == b2.toList)) := rfl
  rw [hr]
  unfold tgV
  have hb : Below w.heap.size w ((w.alloc (.cells #[.bool a1, .string a2] 23)).alloc (.cells #[.bool b1, .string b2] 23)) := ((Below.refl _ _).alloc (Nat.le_refl _) _).alloc (by simp) _
  have hA : ((w.alloc (.cells #[.bool a1, .string a2] 23)).alloc (.cells #[.bool b1, .string b2] 23)).heap[w.heap.size]? = some (.cells #[.bool a1, .string a2] 23 (0, 0)) := zero_more (heap_alloc_new w _)
  have hB : ((w.alloc (.cells #[.bool a1, .string a2] 23)).alloc (.cells #[.bool b1, .string b2] 23)).heap[w.heap.size + 1]? = some (.cells #[.bool b1, .string b2] 23 (0, 0)) := by
    have := heap_alloc_new (w.alloc (.cells #[.bool a1, .string a2] 23)) (.cells #[.bool b1, .string b2] 23)
    rwa [show (w.alloc (.cells #[.bool a1, .string a2] 23)).heap.size = w.heap.size + 1 by simp] at this
  obtain ⟨hA0, hA1⟩ := zero_two hA
  obtain ⟨hB0, hB1⟩ := zero_two hB
  have HB := Lib.hid hb
  clear hb hr hA hB
  rcases both (a2.toList == b2.toList) with hS | hS
  all_goals
    rw [hS]
    cases a1 <;> cases b1
    all_goals
      go_enter Try.func17, Try.ntmps17
      go_wp2_with fail
      go_ret
      exact ⟨rfl, HB.out⟩

/-- The place of the first tag that passes the test, or -1. -/
def ixT (p : Tg → Bool) (L : List Tg) : Int := if L.any p then (L.findIdx p : Int) else -1
theorem ixT_hit {p : Tg → Bool} {L : List Tg} {k : Nat} (hk : k < L.length) (h : p L[k] = true) (hm : ∀ j (hj : j < L.length), j < k → p L[j] = false) : ixT p L = k := by
  unfold ixT
  rw [if_pos (List.any_eq_true.2 ⟨L[k], List.getElem_mem hk, h⟩), (List.findIdx_eq hk).2 ⟨h, fun j hj => hm j (by omega) hj⟩]
theorem ixT_miss {p : Tg → Bool} {L : List Tg} (hm : ∀ j (hj : j < L.length), p L[j] = false) : ixT p L = -1 := by
  have h : L.any p = false := by
    rw [List.any_eq_false]
    intro x hx
    obtain ⟨j, hj, rfl⟩ := List.getElem_of_mem hx
    simp [hm j hj]
  unfold ixT
  rw [if_neg (by rw [h]; simp)]
theorem ixT_any (p : Tg → Bool) (L : List Tg) : decide (0 ≤ ixT p L) = L.any p := by
  unfold ixT
  by_cases h : L.any p = true
  · rw [if_pos h, h]; simp
  · rw [if_neg h, Bool.eq_false_iff.2 h]; simp

/-- A test of tags: function g with the captured cells caps answers p. -/
def PredG (w : World) (g : Nat) (caps : Array Value) (p : Tg → Bool) : Prop :=
  ∀ (W : World) (x : Tg), Below w.heap.size w W → Calls Try.prog g (#[tgV x] ++ caps) W fun e w' => e = .returned (.bool (p x)) ∧ Below W.heap.size W w'

theorem idxG_any (A : Option Addr) (n c : Nat) (L : List Tg) (w : World) (h : SlT w A n c L) (hn : n ≤ 1000000000) (g : Nat) (caps : Array Value) (p : Tg → Bool)
    (eg : ∀ args W, (callFunc g args).run Try.prog W = .ok (.enter g args) W) (hp : PredG w g caps p) :
    Calls Try.prog 34 #[.slice A n c, .func (.func g) #[] caps] w fun e w' => e = .returned (.int .i64 (ixT p L)) ∧ Below w.heap.size w w' := by
  have hlen := h.len
  subst hlen
  have HP := Lib.hid hp
  clear hp
  go_enter Try.func34, Try.ntmps34
  go_wp2_with fail
  go_loopw [5, 8] (fun _ i wr => ∃ k : Nat, k ≤ L.length ∧ i = .int .i64 k ∧ Hid (∀ j (hj : j < L.length), j < k → p L[j] = false) ∧ Below w.heap.size w wr) (fun _ i _ => L.length - (intOf i).toNat)
  case atStart => exact ⟨0, Nat.zero_le _, rfl, (fun j hj h0 => absurd h0 (by omega)), Below.refl _ _⟩
  case round =>
    obtain ⟨k, hk, rfl, hf, hbel⟩ := hrel
    by_cases hlt : k < L.length
    · obtain ⟨ad, rfl, hc⟩ := h.at_ (by omega)
      have HN : Hid (p L[k] = true → ixT p L = k) := fun hp => ixT_hit hlt hp hf.out
      have HM : Hid (p L[k] = false → ∀ j (hj : j < L.length), j < k + 1 → p L[j] = false) := fun hp j hj hjk => by
        by_cases e : j = k
        · subst e; exact hp
        · exact hf.out j hj (by omega)
      obtain ⟨hc0, hc1⟩ := hc k L[k] (List.getElem?_eq_getElem hlt)
      have hcell0 := cell_kept hbel hc0
      have hcell1 := fd_snd (cell_kept hbel hc1)
      generalize L[k] = x at HN HM hc0 hc1 hcell0 hcell1
      obtain ⟨a, b⟩ := x
      have hcall := HP.out wr (a, b) hbel
      unfold tgV at hcall
      clear hc hc0 hc1
      have HC := Lib.hid hcall
      have hi0 : (0 : Int) ≤ (k : Int) := by omega
      have hi1 : (k : Int) < (L.length : Int) := by omega
      clear hcall hf
      cases hq : p (a, b) with
      | true =>
        have HR := Lib.hid (HN.out hq)
        clear HN HM
        rw [hq] at HC
        clear hq
        go_wp2_with fail
        refine HC.out.mono ?_
        rintro e w1 ⟨rfl, hb1⟩
        clear HC
        go_wp2_with fail
        go_ret
        exact ⟨by rw [HR.out]; rfl, hbel.trans (hb1.mono hbel.size)⟩
      | false =>
        have HR := Lib.hid (HM.out hq)
        clear HN HM
        rw [hq] at HC
        clear hq
        go_wp2_with fail
        refine HC.out.mono ?_
        rintro e w1 ⟨rfl, hb1⟩
        clear HC
        go_wp2_with fail
        go_roundw
        case rel => exact ⟨k + 1, by omega, by go_num, HR.out, hbel.trans (hb1.mono hbel.size)⟩
        case measure => simp [intOf]; omega
    · have HE : Hid (ixT p L = -1) := ixT_miss fun j hj => hf.out j hj (by omega)
      go_wp2_with fail
      go_ret
      exact ⟨by rw [HE.out]; rfl, hbel⟩

theorem idxG_has (A : Option Addr) (n c : Nat) (L : List Tg) (w : World) (h : SlT w A n c L) (hn : n ≤ 1000000000) (g : Nat) (caps : Array Value) (p : Tg → Bool)
    (eg : ∀ args W, (callFunc g args).run Try.prog W = .ok (.enter g args) W) (hp : PredG w g caps p) :
    Calls Try.prog 27 #[.slice A n c, .func (.func g) #[] caps] w fun e w' => e = .returned (.bool (L.any p)) ∧ Below w.heap.size w w' := by
  have HQ := Lib.hid (idxG_any A n c L w h hn g caps p eg hp)
  have HE := Lib.hid (ixT_any p L)
  clear h hp eg
  generalize ixT p L = r at *
  go_enter Try.func27, Try.ntmps27
  go_wp2_with fail
  refine HQ.out.mono ?_
  rintro e w1 ⟨rfl, hb1⟩
  clear HQ
  go_wp2_with fail
  all_goals
    go_ret
    exact ⟨by rw [← HE.out]; simp_all, hb1⟩

end Go.Proofs.Ytdaoliobmgcmoaa
