/-
  Contract of the reference's Resolve (layer 8).
-/
import Derived.Test.YtcmppmbieebkpaaGreatDoorTarW
namespace Go.Proofs.YtcmppmbieebkpaaGreatDoor
open Go.RowKit

/-- What Resolve parses as the Host. -/
def hostS (h : ByteArray) (p : Int) : ByteArray := h ++ (⟨#[58]⟩ : ByteArray) ++ mkS (plainL p)
def resV (h : ByteArray) (p : Int) (s : ByteArray) : Value := parV s (hostS h p)
def resB (h : ByteArray) (p : Int) (s : ByteArray) : Bool := parN8 s (hostS h p) == 0

abbrev zeroU : Obj := .cells #[.string ⟨#[]⟩, .int .i64 0, .string ⟨#[]⟩] 34
theorem alloc_then {W w2 : World} {o : Obj} (hb : Below (W.alloc o).heap.size (W.alloc o) w2) : Below W.heap.size W w2 := ((Below.refl _ _).alloc (Nat.le_refl _) o).trans (hb.mono (by simp))
theorem alloc_zero {W w2 : World} {o : Obj} (hb : Below (W.alloc o).heap.size (W.alloc o) w2) : w2.heap[W.heap.size]? = some o := (hb.block _ (by simp)).trans (heap_alloc_new W o)
theorem alloc_thenD {W w2 : World} {o : Obj} (hb : Below (W.alloc o).drew.heap.size (W.alloc o).drew w2) : Below W.drew.heap.size W.drew w2 :=
  ⟨hb.os, hb.tape, hb.output, Nat.le_trans (show W.heap.size ≤ (W.alloc o).heap.size by simp) hb.size, fun k hk => (hb.block k (Nat.lt_of_lt_of_le hk (show W.heap.size ≤ (W.alloc o).heap.size by simp))).trans (Below.heap_alloc W o k hk)⟩
theorem alloc_zeroD {W w2 : World} {o : Obj} {B : Nat} (hb : Below (W.alloc o).drew.heap.size (W.alloc o).drew w2) (hB : W.heap.size = B) : w2.heap[B]? = some o := by
  subst hB
  exact (hb.block _ (show W.heap.size < (W.alloc o).heap.size by simp)).trans (heap_alloc_new W o)
theorem still_zero {W w2 : World} {o : Obj} {B : Nat} (hb : Below W.heap.size W w2) (h : W.heap[B]? = some o) : w2.heap[B]? = some o := (hb.block _ (Array.getElem?_eq_some_iff.1 h).1).trans h
theorem uri_other {W : World} {g b j : Nat} {v c0 c1 c2 : Value} (hn : b ≠ g) (h : W.cell? ⟨b, j, none⟩ = some v) :
    (((W.setCell ⟨g, 0, none⟩ c0).setCell ⟨g, 1, none⟩ c1).setCell ⟨g, 2, none⟩ c2).cell? ⟨b, j, none⟩ = some v := by
  have e : ∀ k : Nat, (⟨g, k, none⟩ : Addr) ≠ ⟨b, j, none⟩ := fun k he => hn (congrArg Addr.block he).symm
  rw [World.cell?_setCell_other (h := e 2), World.cell?_setCell_other (h := e 1), World.cell?_setCell_other (h := e 0)]
  exact h
theorem uri_far {W : World} {g b : Nat} {o : Obj} {c0 c1 c2 : Value} (hn : b ≠ g) (h : W.heap[b]? = some o) :
    (((W.setCell ⟨g, 0, none⟩ c0).setCell ⟨g, 1, none⟩ c1).setCell ⟨g, 2, none⟩ c2).heap[b]? = some o := by
  rw [Below.heap_setCell _ _ _ _ (fun e => hn (by rw [e])), Below.heap_setCell _ _ _ _ (fun e => hn (by rw [e])), Below.heap_setCell _ _ _ _ (fun e => hn (by rw [e]))]
  exact h
theorem uri_full {W : World} {g t : Nat} {c0 c1 c2 : Value} (h : W.heap[g]? = some (.cells #[c0, c1, c2] t (0, 0))) : W.cell? ⟨g, 0, none⟩ = some c0 ∧ W.cell? ⟨g, 1, none⟩ = some c1 ∧ W.cell? ⟨g, 2, none⟩ = some c2 :=
  ⟨(cell_of_row _ _ 0 _ _ _ h).trans rfl, (cell_of_row _ _ 1 _ _ _ h).trans rfl, (cell_of_row _ _ 2 _ _ _ h).trans rfl⟩
/-- The world inside Resolve. -/
structure Res8 (w W : World) (h : ByteArray) (p : Int) (a : ByteArray) : Prop where
  u : Uri3 W w.heap.size h p a
  z : W.heap[w.heap.size + 1]? = some zeroU
  b : Below w.heap.size w W
theorem Res8.kept {w W W' : World} {x : ByteArray} {p : Int} {a : ByteArray} (h : Res8 w W x p a) (hb : Below W.heap.size W W') : Res8 w W' x p a := ⟨h.u.kept hb, still_zero hb h.z, below_then h.b hb⟩

set_option maxHeartbeats 8000000 in
set_option maxRecDepth 100000 in
theorem r_res8 (h : ByteArray) (p : Int) (a s : ByteArray) (hp : -9223372036854775808 ≤ p ∧ p ≤ 9223372036854775807) (hh : h.size ≤ 900000) (hs : s.size ≤ 900000) (w : World) :
    Calls Tryz.prog 13 #[uriV h p a, .string s] w fun e w' => e = .returned (.tuple #[resV h p s, .bool (resB h p s)]) ∧ Below w.heap.size w w' := by
  have hlen := plainL_short p hp.1 hp.2
  have hz : (mkS (plainL p)).size ≤ 20 := by rw [mkS_size]; exact hlen
  have c := fun W => r_plain p hp.1 hp.2 W
  have hH : hostS h p = h ++ (⟨#[58]⟩ : ByteArray) ++ mkS (plainL p) := rfl
  have cp := fun W => r_par s (hostS h p) W hs (by rw [hH, ByteArray.size_append, ByteArray.size_append]; show h.size + 1 + _ ≤ _; omega)
  have hV : resV h p s = parV s (hostS h p) := rfl
  have hB : resB h p s = (parN8 s (hostS h p) == 0) := rfl
  have hu : ∃ x q y, parV s (hostS h p) = .agg #[.string x, .int .i64 q, .string y] := ⟨_, _, _, rfl⟩
  rw [hV, hB]
  obtain ⟨x, q, y, hu⟩ := hu
  rw [hu] at cp ⊢
  generalize parN8 s (hostS h p) = E at *
  rw [hH] at cp
  generalize mkS (plainL p) = D at *
  have C := Lib.hid c
  have CP := Lib.hid cp
  have zh : (h.size : Int) ≤ 1000000 := by omega
  have zd : (D.size : Int) ≤ 20 := by omega
  have f1 : ¬ 9223372036854775807 < h.size + 1 := by omega
  have f2 : ¬ 9223372036854775807 < h.size + 1 + D.size := by omega
  clear hV hB hu cp c hH hlen
  have hZ0 : ((w.alloc (.cells #[.string h, .int .i64 p, .string a] 34)).alloc (.cells #[.string ⟨#[]⟩, .int .i64 0, .string ⟨#[]⟩] 34)).drew.heap[w.heap.size + 1]? = some (.cells #[.string ⟨#[]⟩, .int .i64 0, .string ⟨#[]⟩] 34 (0, 0)) := by
    have := heap_alloc_new (w.alloc (.cells #[.string h, .int .i64 p, .string a] 34)) (.cells #[.string ⟨#[]⟩, .int .i64 0, .string ⟨#[]⟩] 34)
    have e : (w.alloc (.cells #[.string h, .int .i64 p, .string a] 34)).heap.size = w.heap.size + 1 := by simp
    rw [e] at this
    exact this
  have HU : Hid (Uri3 ((w.alloc (.cells #[.string h, .int .i64 p, .string a] 34)).alloc (.cells #[.string ⟨#[]⟩, .int .i64 0, .string ⟨#[]⟩] 34)).drew w.heap.size h p a) := by
    have h0 := heap_alloc_new w (.cells #[.string h, .int .i64 p, .string a] 34)
    have hb := ((Below.refl (w.alloc (.cells #[.string h, .int .i64 p, .string a] 34)).heap.size (w.alloc (.cells #[.string h, .int .i64 p, .string a] 34))).alloc (Nat.le_refl _) (.cells #[.string ⟨#[]⟩, .int .i64 0, .string ⟨#[]⟩] 34)).drew
    exact Uri3.kept hb ⟨(cell_of_row _ _ 0 _ _ _ h0).trans rfl, (cell_of_row _ _ 1 _ _ _ h0).trans rfl, (cell_of_row _ _ 2 _ _ _ h0).trans rfl⟩
  have hb0 : Below w.heap.size w ((w.alloc (.cells #[.string h, .int .i64 p, .string a] 34)).alloc (.cells #[.string ⟨#[]⟩, .int .i64 0, .string ⟨#[]⟩] 34)).drew := (((Below.refl _ _).alloc (Nat.le_refl _) _).alloc (by simp) _).drew
  have HS : Hid (Res8 w ((w.alloc (.cells #[.string h, .int .i64 p, .string a] 34)).alloc (.cells #[.string ⟨#[]⟩, .int .i64 0, .string ⟨#[]⟩] 34)).drew h p a) := ⟨HU.out, hZ0, hb0⟩
  clear hZ0 hb0
  unfold uriV
  go_enter Tryz.func13, Tryz.ntmps13
  go_wp2_with fail
  obtain ⟨u0, u1, u2⟩ := HS.out.u
  have n0 := World.new_ne _ _ u0
  have n1 := World.new_ne _ _ u1
  go_region_held3 (fun W => W.cell? ⟨w.heap.size, 0, none⟩ = some (.string h) ∧ W.cell? ⟨w.heap.size, 1, none⟩ = some (.int .i64 p)) (first | go_keep | exact ⟨uri_other (by omega) t0, uri_other (by omega) t1⟩ | exact ⟨uri_other (Ne.symm m0) t0, uri_other (Ne.symm m0) t1⟩) (first
    | (go_at_call 36; refine (C.out _).mono ?_; rintro e w2 ⟨rfl, hb2⟩; (first | (with_reducible have hzA := alloc_zeroD (B := w.heap.size + 1 + 1) hb2 (by simp); have HS := Lib.hid (HS.out.kept (alloc_thenD hb2)); have HZA := Lib.hid hzA; clear hb2 hzA) | (have HS := Lib.hid (HS.out.kept hb2); clear hb2)); have hg2 : w.heap.size + 1 ≠ w2.heap.size := Nat.ne_of_lt (Array.getElem?_eq_some_iff.1 HS.out.z).1; have hg3 : w.heap.size ≤ w2.heap.size := HS.out.b.size; obtain ⟨v0, v1, v2⟩ := HS.out.u; have m0 := World.new_ne _ _ v0; have m1 := World.new_ne _ _ v1)
    | (go_at_call 11; refine (CP.out _).mono ?_; rintro e w3 ⟨rfl, hb3⟩; (first | (with_reducible have hzB := alloc_zero hb3; have HS := Lib.hid (HS.out.kept (alloc_then hb3)); obtain ⟨c0, c1, c2, d0, d1, d2⟩ := uri_cells hzB; have HZB := Lib.hid hzB; clear hb3 hzB) | (have hzB := still_zero hb3 HZA.out; have HS := Lib.hid (HS.out.kept hb3); obtain ⟨c0, c1, c2, d0, d1, d2⟩ := uri_cells hzB; have HZB := Lib.hid hzB; clear hb3 hzB) | (have HS := Lib.hid (HS.out.kept hb3); clear hb3)); obtain ⟨t0, t1, t2⟩ := HS.out.u; have k0 := World.new_ne _ _ t0; have k1 := World.new_ne _ _ t1))
  · obtain ⟨W4, hW4⟩ : ∃ W4, W4 = w3.alloc (.cells #[.string x, .int .i64 q, .string y] 34) := ⟨_, rfl⟩
    rw [← hW4]
    have hB4 : W4.heap[w3.heap.size]? = some (.cells #[.string x, .int .i64 q, .string y] 34 (0, 0)) := by rw [hW4]; exact heap_alloc_new w3 _
    have hG4 : W4.heap[w.heap.size + 1]? = some zeroU := by
      rw [hW4]
      have hz3 := HS.out.z
      exact (Below.heap_alloc w3 _ _ (Array.getElem?_eq_some_iff.1 hz3).1).trans hz3
    have hb4 : Below w.heap.size w W4 := by rw [hW4]; exact HS.out.b.alloc HS.out.b.size _
    have HG4 := Lib.hid hG4
    have HB4 := Lib.hid hb4
    obtain ⟨a0, a1, a2⟩ := uri_full hB4
    obtain ⟨z0, z1, z2, y0, y1, y2⟩ := uri_cells hG4
    clear hG4 hb4 hB4 hW4
    go_wp2_with fail
    refine bodyPost_ret (results_cell_row_tmp rfl _ _ (w.heap.size + 1) 34 #[.string x, .int .i64 q, .string y] (0, 0) _ rfl (uri_set HG4.out) Tryz.underlying34 rfl (by kernel_rfl)) rfl ?_
    exact ⟨rfl, below_set3 HB4.out (Nat.le_succ _)⟩
  · obtain ⟨W4, hW4⟩ : ∃ W4, W4 = (((w3.setCell ⟨w2.heap.size, 0, none⟩ (.string x)).setCell ⟨w2.heap.size, 1, none⟩ (.int .i64 q)).setCell ⟨w2.heap.size, 2, none⟩ (.string y)) := ⟨_, rfl⟩
    rw [← hW4]
    have hB4 : W4.heap[w2.heap.size]? = some (.cells #[.string x, .int .i64 q, .string y] 34 (0, 0)) := by rw [hW4]; exact uri_set HZB.out
    have hG4 : W4.heap[w.heap.size + 1]? = some zeroU := by rw [hW4]; exact uri_far hg2 HS.out.z
    have hb4 : Below w.heap.size w W4 := by rw [hW4]; exact below_set3 HS.out.b hg3
    have HG4 := Lib.hid hG4
    have HB4 := Lib.hid hb4
    obtain ⟨a0, a1, a2⟩ := uri_full hB4
    obtain ⟨z0, z1, z2, y0, y1, y2⟩ := uri_cells hG4
    clear hG4 hb4 hB4 hW4
    go_wp2_with fail
    refine bodyPost_ret (results_cell_row_tmp rfl _ _ (w.heap.size + 1) 34 #[.string x, .int .i64 q, .string y] (0, 0) _ rfl (uri_set HG4.out) Tryz.underlying34 rfl (by kernel_rfl)) rfl ?_
    exact ⟨rfl, below_set3 HB4.out (Nat.le_succ _)⟩
  · obtain ⟨W4, hW4⟩ : ∃ W4, W4 = (((w3.setCell ⟨w.heap.size + 1 + 1, 0, none⟩ (.string x)).setCell ⟨w.heap.size + 1 + 1, 1, none⟩ (.int .i64 q)).setCell ⟨w.heap.size + 1 + 1, 2, none⟩ (.string y)) := ⟨_, rfl⟩
    rw [← hW4]
    have hB4 : W4.heap[w.heap.size + 1 + 1]? = some (.cells #[.string x, .int .i64 q, .string y] 34 (0, 0)) := by rw [hW4]; exact uri_set HZB.out
    have hG4 : W4.heap[w.heap.size + 1]? = some zeroU := by rw [hW4]; exact uri_far (by omega) HS.out.z
    have hb4 : Below w.heap.size w W4 := by rw [hW4]; exact below_set3 HS.out.b (by omega)
    have HG4 := Lib.hid hG4
    have HB4 := Lib.hid hb4
    obtain ⟨a0, a1, a2⟩ := uri_full hB4
    obtain ⟨z0, z1, z2, y0, y1, y2⟩ := uri_cells hG4
    clear hG4 hb4 hB4 hW4
    go_wp2_with fail
    refine bodyPost_ret (results_cell_row_tmp rfl _ _ (w.heap.size + 1) 34 #[.string x, .int .i64 q, .string y] (0, 0) _ rfl (uri_set HG4.out) Tryz.underlying34 rfl (by kernel_rfl)) rfl ?_
    exact ⟨rfl, below_set3 HB4.out (Nat.le_succ _)⟩

end Go.Proofs.YtcmppmbieebkpaaGreatDoor
