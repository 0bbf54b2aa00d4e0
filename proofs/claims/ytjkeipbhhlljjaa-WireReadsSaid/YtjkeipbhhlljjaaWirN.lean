/-
  Contracts of Clone on bytes, and of New, Left, peek and take of package wire.
-/
import Derived.Test.YtjkeipbhhlljjaaWirH
import Derived.Test.YtjkeipbhhlljjaaWirP
import Derived.Test.YtjkeipbhhlljjaaComU
import Derived.Lib.SliceRun
namespace Go.Proofs.Ytjkeipbhhlljjaa
open Go.RowKit

set_option maxHeartbeats 1000000 in
set_option maxRecDepth 100000 in
theorem clone_at (A : Option Addr) (n c : Nat) (l : List UInt8) (w : World) (h : Sl8 w A n c l) (hl : l.length ≤ 1000000) :
    Calls Try.prog 26 #[.slice A n c] w fun e w' => ∃ A' c', e = .returned (.slice A' l.length c') ∧ Sl8 w' A' l.length c' l ∧ Below w.heap.size w w' ∧ ∀ ad, A' = some ad → w.heap.size ≤ ad.block ∧ ad.block < w'.heap.size := by
  have q := fun (w : World) (a : Option Addr) (n c n' c' : Nat) => Lib.run_eql_slice_nil (P := Try.prog) w _ _ a n c n' c' Try.underlying22
  have H := Lib.hid h
  have HL := Lib.hid h.len
  have HO := Lib.hid (Own8.start w 5)
  have hb0 : Below w.heap.size w (w.alloc (.cells #[] 5)) := (Below.refl _ _).alloc (Nat.le_refl _) _
  rcases A with _ | ad
  · obtain ⟨rfl, rfl, hl0⟩ := h.none_eq
    subst hl0
    clear h
    go_enter Try.func26, Try.ntmps26
    go_wp2_with fail
    go_ret
    exact ⟨none, 0, rfl, Sl8.none_ _, Below.refl _ _, fun _ h => by cases h⟩
  · clear h
    go_enter Try.func26, Try.ntmps26
    go_wp2_with (at_builtin; refine wpList_append_sl8 rfl _ _ 22 rfl w.heap.size 5 Try.underlying22 Try.infoU8 _ rfl [] HO.out (some ad) n c rfl l (H.out.alloc _) (by simp; omega) (by simp) w hb0 ?_; intro v' w2 hown hbel hsz2)
    rw [List.nil_append] at hown
    obtain ⟨A', c', rfl, hA', hat⟩ := hown.out.sl8_at
    go_ret
    exact ⟨A', c', rfl, hA', hbel, hat⟩

set_option maxHeartbeats 1000000 in
set_option maxRecDepth 100000 in
theorem new_at (A : Option Addr) (n c : Nat) (l : List UInt8) (w : World) (h : Sl8 w A n c l) (hl : l.length ≤ 1000000) :
    Calls Try.prog 15 #[.slice A n c] w fun e w' => ∃ R A' n' c', e = .returned (.pointer (some ⟨R, 0, none⟩)) ∧ w.heap.size ≤ R ∧ R < w'.heap.size ∧ w'.heap[R]? = some (.cells #[.slice A' n' c'] 63 (0, 0)) ∧ Sl8 w' A' n' c' l ∧ Below w.heap.size w w' ∧ ∀ ad, A' = some ad → w.heap.size ≤ ad.block ∧ ad.block < w'.heap.size := by
  go_enter Try.func15, Try.ntmps15
  go_wp2_with fail
  refine (clone_at A n c l _ h hl).mono ?_
  rintro e w1 ⟨A', c', rfl, hs, hb, hat⟩
  have HS := Lib.hid hs
  have HB := Lib.hid hb
  have HA := Lib.hid hat
  clear hs hb hat
  go_wp2_with fail
  go_ret
  exact ⟨_, A', _, c', rfl, HB.out.size, by simp, heap_alloc_new _ _, HS.out.alloc _, HB.out.alloc HB.out.size _, fun ad hA => ⟨(HA.out ad hA).1, by have := (HA.out ad hA).2; simp; omega⟩⟩

theorem new_any (A : Option Addr) (n c : Nat) (l : List UInt8) (w : World) (h : Sl8 w A n c l) (hl : l.length ≤ 1000000) :
    Calls Try.prog 15 #[.slice A n c] w fun e w' => ∃ R, e = .returned (.pointer (some ⟨R, 0, none⟩)) ∧ w.heap.size ≤ R ∧ Hold1 w' R 63 l ∧ Below w.heap.size w w' :=
  (new_at A n c l w h hl).mono fun _ _ ⟨R, A', n', c', he, hR, _, hg, hs, hb, _⟩ => ⟨R, he, hR, ⟨A', n', c', hg, hs⟩, hb⟩

theorem left_nil (w : World) : Calls Try.prog 21 #[.pointer none] w fun e w' => e = .returned (.int .i64 0) ∧ w = w' := by
  go_enter Try.func21, Try.ntmps21
  go_wp2_with fail
  go_ret
  exact ⟨rfl, rfl⟩
theorem left_any (R : Nat) (l : List UInt8) (w : World) (h : Hold1 w R 63 l) : Calls Try.prog 21 #[.pointer (some ⟨R, 0, none⟩)] w fun e w' => e = .returned (.int .i64 l.length) ∧ w = w' := by
  obtain ⟨A, n, c, hg, hs⟩ := h
  obtain ⟨hc, hf⟩ := hold_cell hg
  have HL := Lib.hid hs.len
  clear hg hs hf
  go_enter Try.func21, Try.ntmps21
  go_wp2_with fail
  go_ret
  exact ⟨ret_int (by rw [HL.out]), rfl⟩

theorem peek_nil (k : Int) (w : World) : Calls Try.prog 27 #[.pointer none, .int .i64 k] w fun e w' => e = .returned (.tuple #[.int .i64 0, .int .i64 1]) ∧ w = w' := by
  go_enter Try.func27, Try.ntmps27
  go_wp2_with fail
  go_ret2
  exact ⟨rfl, rfl⟩
theorem peek_any (R : Nat) (l : List UInt8) (k : Int) (w : World) (h : Hold1 w R 63 l) (hk0 : -9223372036854775808 ≤ k) (hk1 : k ≤ 9223372036854775807) :
    Calls Try.prog 27 #[.pointer (some ⟨R, 0, none⟩), .int .i64 k] w fun e w' => e = .returned (.tuple #[.int .i64 (getV l 0 k), .int .i64 (getE l 0 k)]) ∧ Below w.heap.size w w' := by
  obtain ⟨A, n, c, hg, hs⟩ := h
  obtain ⟨hc, hf⟩ := hold_cell hg
  clear hg hf
  go_enter Try.func27, Try.ntmps27
  go_wp2_with fail
  refine (get_any A n c l 0 k _ hs (by omega) (by omega) hk0 hk1).mono ?_
  rintro e w1 ⟨rfl, hb⟩
  go_wp2_with fail
  go_ret2
  exact ⟨rfl, hb⟩

set_option maxHeartbeats 1000000 in
set_option maxRecDepth 100000 in
theorem take_any (R : Nat) (l : List UInt8) (k : Nat) (w : World) (h : Hold1 w R 63 l) (hk : k ≤ l.length) :
    Calls Try.prog 28 #[.pointer (some ⟨R, 0, none⟩), .int .i64 k] w fun e w' => ∃ A c, e = .returned (.slice A k c) ∧ Sl8 w' A k c (l.take k) ∧ Hold1 w' R 63 (l.drop k) ∧ ButB R w w' := by
  obtain ⟨A, n, c, hg, hs⟩ := h
  obtain ⟨hc, hf⟩ := hold_cell hg
  have hcap := hs.cap
  have hlen := hs.len
  have hm := hs.cm
  have hB := (Array.getElem?_eq_some_iff.1 hg).1
  unfold maxLen at hm
  have HG := Lib.hid hg
  have HS := Lib.hid hs
  have HL := Lib.hid hlen
  have hkn : k ≤ n := by omega
  clear hg hs hlen
  go_enter Try.func28, Try.ntmps28
  go_wp2_with fail
  · have he : c = k := by assumption
    subst he
    have h3 := HS.out.from_ hkn
    rw [if_pos rfl, Nat.sub_self] at h3
    have hb := (ButB.refl R w).setCell 0 (.slice A (n - c) 0)
    go_ret
    exact ⟨A, _, rfl, (HS.out.upto hkn).but HG.out hb, ⟨_, _, _, hold_set HG.out _ _ _, h3.but HG.out hb⟩, hb⟩
  · have he : ¬ c = k := by assumption
    have h3 := HS.out.from_ hkn
    rw [if_neg he] at h3
    have hb := (ButB.refl R w).setCell 0 (.slice (Option.map (fun x => x.add k) A) (n - k) (c - k))
    go_ret
    exact ⟨A, _, rfl, (HS.out.upto hkn).but HG.out hb, ⟨_, _, _, hold_set HG.out _ _ _, h3.but HG.out hb⟩, hb⟩

end Go.Proofs.Ytjkeipbhhlljjaa
