/-
  Contract of package etag's Match; with it all contracts of the package are there (etP_any, etL_any, etM_any, etS_any, etW_any, etT_any).
-/
import Derived.Test.YtdaoliobmgcmoaaEtpC
import Derived.Test.YtdaoliobmgcmoaaEtpD
namespace Go.Proofs.Ytdaoliobmgcmoaa
open Go.RowKit
set_option linter.unusedSimpArgs false

theorem enters_like : ∀ args W, (callFunc 28 args).run Try.prog W = .ok (.enter 28 args) W := Go.Proofs.enters_of Try.func28 (by kernel_rfl) rfl

/-- The test that Match hands in. -/
theorem like_any (x t : Tg) (P : Nat) (w : World) (hP : w.heap[P]? = some (.cells #[.bool t.1, .string t.2] 23 (0, 0))) :
    Calls Try.prog 28 #[tgV x, .pointer (some ⟨P, 0, none⟩)] w fun e w' => e = .returned (.bool (wekB x t)) ∧ Below w.heap.size w w' := by
  have cw := fun W => etW_any x t W
  obtain ⟨x1, x2⟩ := x
  obtain ⟨t1, t2⟩ := t
  unfold tgV at *
  generalize wekB (x1, x2) (t1, t2) = R at *
  have CW := Lib.hid cw
  have HB : Hid (Below w.heap.size w (w.alloc (.cells #[.bool x1, .string x2] 23))) := (Below.refl _ _).alloc (Nat.le_refl _) _
  obtain ⟨p0, p1⟩ := zero_two (show (w.alloc (.cells #[.bool x1, .string x2] 23)).heap[P]? = some (.cells #[.bool t1, .string t2] 23 (0, 0)) from zero_more hP)
  obtain ⟨q0, q1⟩ := zero_two (heap_alloc_new w (.cells #[.bool x1, .string x2] 23))
  clear cw hP
  go_enter Try.func28, Try.ntmps28
  go_wp2_with fail
  refine (CW.out _).mono ?_
  rintro e w1 ⟨rfl, hb1⟩
  go_wp2_with fail
  go_ret
  exact ⟨rfl, below_then HB.out hb1⟩

set_option maxHeartbeats 4000000 in
set_option maxRecDepth 100000 in
theorem etM_any (s : ByteArray) (a : Tg) (w : World) (hs : s.size ≤ 100000000) :
    Calls Try.prog 13 #[.string s, tgV a] w fun e w' => e = .returned (.bool (mtB s a)) ∧ Below w.heap.size w w' := by
  have hmf : ∀ (fn : Fn) (first cap : Array Value) (w : World), (Instr.makeFunc fn first cap).run Try.prog w = .ok (.func fn first cap) w := fun _ _ _ _ => rfl
  have cl := etL_any s (w.alloc (.cells #[.bool a.1, .string a.2] 23)) hs
  have hD : mtB s a = (lsA s || (lsL s).any fun x => wekB x a) := rfl
  have hle := ls_len s
  unfold IsTs at cl
  rw [hD]
  have HZ : Hid ((w.alloc (.cells #[.bool a.1, .string a.2] 23)).heap[w.heap.size]? = some (.cells #[.bool a.1, .string a.2] 23 (0, 0))) := heap_alloc_new w _
  have HB : Hid (Below w.heap.size w (w.alloc (.cells #[.bool a.1, .string a.2] 23))) := (Below.refl _ _).alloc (Nat.le_refl _) _
  generalize lsL s = L at *
  generalize lsE s = E at *
  have cj := fun A c W (hc : W.heap[w.heap.size]? = some (.cells #[.bool a.1, .string a.2] 23 (0, 0))) (hs : SlT W A L.length c L) =>
    idxG_has A L.length c L W hs (by omega) 28 #[.pointer (some ⟨w.heap.size, 0, none⟩)] (fun x => wekB x a) enters_like (fun W' x hb' => like_any x a w.heap.size W' (zero_still hb' hc))
  generalize (L.any fun x => wekB x a) = Q at *
  obtain ⟨a1, a2⟩ := a
  unfold tgV
  have CL := Lib.hid cl
  have CJ := Lib.hid cj
  clear cl cj hD hle
  cases hl : lsA s with
  | true =>
    rw [hl] at CL
    clear hl
    go_enter Try.func13, Try.ntmps13
    go_wp2_with fail
    refine CL.out.mono ?_
    rintro e w1 ⟨A, c, rfl, hF, hb1⟩
    have HB1 := Lib.hid (below_then HB.out hb1)
    clear hF hb1
    go_wp2_with fail
    go_ret
    exact ⟨rfl, HB1.out⟩
  | false =>
    rw [hl] at CL
    clear hl
    go_enter Try.func13, Try.ntmps13
    go_wp2_with fail
    refine CL.out.mono ?_
    rintro e w1 ⟨A, c, rfl, hF, hb1⟩
    have HB1 := Lib.hid (below_then HB.out hb1)
    have HC := Lib.hid (CJ.out A c w1 (zero_still hb1 HZ.out) hF)
    clear hF hb1
    go_wp2_with fail
    refine HC.out.mono ?_
    rintro e w2 ⟨rfl, hb2⟩
    have HB2 := Lib.hid (below_then HB1.out hb2)
    clear hb2
    go_wp2_with fail
    go_ret
    exact ⟨rfl, HB2.out⟩

end Go.Proofs.Ytdaoliobmgcmoaa
