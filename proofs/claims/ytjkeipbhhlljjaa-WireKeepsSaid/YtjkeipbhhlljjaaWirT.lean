/-
  Contract of PutText of package wire.
-/
import Derived.Test.YtjkeipbhhlljjaaWirQ
namespace Go.Proofs.Ytjkeipbhhlljjaa
open Go.RowKit

theorem pt_long {s : List UInt8} (h : 65536 < s.length) (l : List UInt8) : ptE s = 4 ∧ ptL l s = [] := by
  have e : ptE s = 4 := by unfold ptE; rw [if_pos h]
  exact ⟨e, by unfold ptL; rw [e]; rfl⟩
theorem pt_ok {s : List UInt8} (h : ¬ 65536 < s.length) (l : List UInt8) : ptE s = 0 ∧ ptL l s = l ++ (leL s.length 4 ++ s) := by
  have e : ptE s = 0 := by unfold ptE; rw [if_neg h]
  exact ⟨e, by unfold ptL; rw [if_pos e]⟩

set_option maxHeartbeats 1000000 in
set_option maxRecDepth 100000 in
theorem puttext_any (A : Option Addr) (n c : Nat) (l : List UInt8) (s : ByteArray) (w : World) (h : Sl8 w A n c l) (hl : l.length ≤ 100000) (hs : s.size ≤ maxLen) :
    Calls Try.prog 12 #[.slice A n c, .string s] w (Bytes2 w (ptL l s.data.toList) (ptE s.data.toList)) := by
  unfold maxLen at hs
  have HSZ := Lib.hid (Lib.size_eq s)
  by_cases hb : 65536 < s.size
  · have HG := Lib.hid (pt_long (s := s.data.toList) (by rw [← HSZ.out]; exact hb) l)
    go_enter Try.func12, Try.ntmps12
    go_wp2_with fail
    go_ret2
    rw [HG.out.1, HG.out.2]
    exact ⟨none, 0, 0, rfl, Sl8.none_ _, Below.refl _ _⟩
  · have HG := Lib.hid (pt_ok (s := s.data.toList) (by rw [← HSZ.out]; exact hb) l)
    go_enter Try.func12, Try.ntmps12
    go_wp2_with fail
    refine (split_any s.size 4 _ (by omega) (by omega) (by omega)).mono ?_
    rintro e w1 ⟨he, hb1⟩
    obtain ⟨S, hS⟩ : ∃ S, S = sevL (s.size : Int).toNat (4 : Int).toNat := ⟨_, rfl⟩
    rw [← hS] at he
    subst he
    have hs7 : S.length = 7 := by rw [hS]; exact sevL_len (by decide)
    have HST := Lib.hid (show S.take 4 = leL s.data.toList.length 4 by rw [hS, ← HSZ.out]; exact sevL_take _ _)
    clear hS
    have HZ : Hid (Blk8 (w1.alloc (Obj.cells #[.int .u8 0, .int .u8 0, .int .u8 0, .int .u8 0, .int .u8 0, .int .u8 0, .int .u8 0] 57)) w1.heap.size 57 (List.replicate 7 0)) := heap_alloc_new w1 _
    have HS := Lib.hid hs7
    have hsz := hb1.size
    have HB := Lib.hid (hb1.alloc hsz (Obj.cells #[.int .u8 0, .int .u8 0, .int .u8 0, .int .u8 0, .int .u8 0, .int .u8 0, .int .u8 0] 57))
    clear hs7
    unfold arrV
    have kc := fun W => run_bytes_of_string (P := Try.prog) W 9 22 5 s Try.underlying9 Try.underlying22 Try.underlying5
    go_wp2_with (refine wpList_store_arr rfl _ _ _ rfl w1.heap.size _ rfl rfl 57 _ HZ.out (by rw [HS.out]; kernel_rfl) (by rw [HS.out]; rfl) w.heap.size w HB.out hsz ?_; intro w2 hs2 hb2 hz2)
    clear kc
    have hf2 : Sl8 w2 (some ⟨w1.heap.size, 0, none⟩) 4 7 (leL s.data.toList.length 4) := by
      have := hs2.out.front (k := 4) (by rw [HS.out]; decide) (by rw [HS.out]; decide)
      rw [HS.out, HST.out] at this
      exact this
    have h3 := (Sls.three ((h.below hb2).alloc (Obj.cells (bytesRow s (grownCap w2 s.size 0 5)) 5 ((bytesRow s (grownCap w2 s.size 0 5)).size, (bytesRow s (grownCap w2 s.size 0 5)).size + 1))) (hf2.alloc _) (Sl8.made w2 w2 s 5 5 hs) 22).drew
    have e3 : (w2.alloc (Obj.cells (bytesRow s (grownCap w2 s.size 0 5)) 5 ((bytesRow s (grownCap w2 s.size 0 5)).size, (bytesRow s (grownCap w2 s.size 0 5)).size + 1))).heap.size = w2.heap.size + 1 := by simp
    rw [e3] at h3
    refine (concat_any _ [l, leL s.data.toList.length 4, s.data.toList] _ h3 (by simp) ?_).mono ?_
    · simp only [sumL, List.map_cons, List.map_nil, List.sum_cons, List.sum_nil, leL_len]
      have := HSZ.out
      omega
    rintro e w4 ⟨v, rfl, hown, hb4⟩
    obtain ⟨A', c', rfl, hA'⟩ := Sl8.of_own hown
    have hb5 : Below w.heap.size w w4 := ((hb2.alloc hb2.size _).alloc (by simp; have := hb2.size; omega) _).drew.trans (hb4.mono (by simp; have := hb2.size; omega))
    have H5 := Lib.hid hA'
    clear hown hA' hb4 hf2 hs2
    go_wp2_with fail
    go_ret2
    rw [HG.out.1, HG.out.2]
    exact ⟨A', _, c', rfl, by simpa using H5.out, hb5⟩

end Go.Proofs.Ytjkeipbhhlljjaa
