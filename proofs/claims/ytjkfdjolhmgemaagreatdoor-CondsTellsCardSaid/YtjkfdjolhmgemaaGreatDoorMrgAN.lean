/-
  Texts that the laws of this seat lean on, one behind the other.
-/
import Derived.Test.YtjkfdjolhmgemaaGreatDoorMrgAM
import Derived.Deep.RegionHeld3
import Derived.Test.YtjkfdjolhmgemaaGreatDoorMrgW
set_option linter.unusedSimpArgs false
set_option linter.unusedVariables false
/-
  Contract of package date's read, for every text of at most 10000 bytes and every layout whose parts lie within it.
-/
section
namespace Go.Proofs.YtjkfdjolhmgemaaGreatDoor
open Go.RowKit

/-- The number at a place, and the month at a place, with the place as an integer. -/
def nbrI (s : ByteArray) (a n : Int) : Int := nbrN s a.toNat n.toNat
def monI (s : ByteArray) (a : Int) : Int := monN s a.toNat
theorem nbrI_bd (s : ByteArray) (a n : Int) : 0 ≤ nbrI s a n ∧ nbrI s a n ≤ 9999 := nbrN_bd _ _ _
theorem monI_bd (s : ByteArray) (a : Int) : 0 ≤ monI s a ∧ monI s a ≤ 12 := monN_bd _ _
theorem p_numberI (s : ByteArray) (P : Nat) (a n : Int) (h0 : 0 ≤ a) (h1 : 0 ≤ n) (h : a + n ≤ s.size) (hs : s.size ≤ 10000) (w : World) (hp : w.cell? ⟨P, 0, none⟩ = some (.string s)) :
    Calls Tryz.prog 150 #[.int .i64 a, .int .i64 n, .pointer (some ⟨P, 0, none⟩)] w fun e w' => e = .returned (.int .i64 (nbrI s a n)) ∧ Below w.heap.size w w' := by
  obtain ⟨A, rfl⟩ := Int.eq_ofNat_of_zero_le h0
  obtain ⟨n, rfl⟩ := Int.eq_ofNat_of_zero_le h1
  exact p_number s P A n (by omega) hs w hp
theorem p_nameI (s : ByteArray) (P : Nat) (a : Int) (h0 : 0 ≤ a) (h : a ≤ s.size) (w : World) (HT : DatTabs w) (hp : w.cell? ⟨P, 0, none⟩ = some (.string s)) :
    Calls Tryz.prog 153 #[.int .i64 a, .pointer (some ⟨P, 0, none⟩)] w fun e w' => e = .returned (.int .i64 (monI s a)) ∧ Below w.heap.size w w' := by
  obtain ⟨A, rfl⟩ := Int.eq_ofNat_of_zero_le h0
  exact p_name s P A (by omega) w HT hp

/-- Where the parts of a form stand. -/
structure Lay where
  (z d m y n c : Int)
structure Lay.Ok (L : Lay) : Prop where
  z1 : L.z ≤ 100
  d0 : 0 ≤ L.d
  d1 : L.d + 2 ≤ L.z
  m0 : 0 ≤ L.m
  m1 : L.m + 3 ≤ L.z
  y0 : 0 ≤ L.y
  y1 : L.y + L.n ≤ L.z
  n0 : 0 ≤ L.n
  c0 : 0 ≤ L.c
  c1 : L.c + 8 ≤ L.z
def Lay.val (L : Lay) : Value := .agg #[.int .i64 L.z, .int .i64 L.d, .int .i64 L.m, .int .i64 L.y, .int .i64 L.n, .int .i64 L.c]
def fullY (n : Int) : Int := if n + 1900 < 1970 then n + 1900 + 100 else n + 1900
theorem fullY_bd {n : Int} (h : 0 ≤ n ∧ n ≤ 9999) : 0 ≤ fullY n ∧ fullY n ≤ 20000 := by unfold fullY; split <;> omega
/-- The last bytes of a text, in which the parts stand. -/
def lastB (s : ByteArray) (z : Int) : ByteArray := s.extract (s.size - z.toNat) s.size
def rdY (t : ByteArray) (L : Lay) : Int := if L.n = 2 then fullY (nbrI t L.y L.n) else nbrI t L.y L.n
def rdB (t : ByteArray) (L : Lay) : Bool := dayB (rdY t L) (monI t L.m) (nbrI t L.d 2)
def rdV (t : ByteArray) (L : Lay) : Int := dayV (rdY t L) (monI t L.m) (nbrI t L.d 2) * 86400 + nbrI t L.c 2 * 3600 + nbrI t (L.c + 3) 2 * 60 + nbrI t (L.c + 6) 2
def rd1 (s : ByteArray) (L : Lay) : Int := if (s.size : Int) < L.z ∨ rdB (lastB s L.z) L = false then 0 else rdV (lastB s L.z) L
def rd2 (s : ByteArray) (L : Lay) : Bool := decide (L.z ≤ (s.size : Int)) && rdB (lastB s L.z) L
theorem rdY_bd (t : ByteArray) (L : Lay) : 0 ≤ rdY t L ∧ rdY t L ≤ 20000 := by
  unfold rdY
  split
  · exact fullY_bd (nbrI_bd _ _ _)
  · have := nbrI_bd t L.y L.n; omega

/-- The world inside read: the tables, the layout in block g, the text in blocks P and Q. -/
structure Rd (W : World) (g P Q : Nat) (X : ByteArray) (L : Lay) : Prop where
  tabs : DatTabs W
  b0 : W.cell? ⟨g, 0, none⟩ = some (.int .i64 L.z)
  b1 : W.cell? ⟨g, 1, none⟩ = some (.int .i64 L.d)
  b2 : W.cell? ⟨g, 2, none⟩ = some (.int .i64 L.m)
  b3 : W.cell? ⟨g, 3, none⟩ = some (.int .i64 L.y)
  b4 : W.cell? ⟨g, 4, none⟩ = some (.int .i64 L.n)
  b5 : W.cell? ⟨g, 5, none⟩ = some (.int .i64 L.c)
  p : W.cell? ⟨P, 0, none⟩ = some (.string X)
  q : W.cell? ⟨Q, 0, none⟩ = some (.string X)
theorem Rd.kept {W W' : World} {g P Q : Nat} {X : ByteArray} {L : Lay} (hb : Below W.heap.size W W') (h : Rd W g P Q X L) : Rd W' g P Q X L :=
  ⟨h.tabs.kept hb, cell_kept hb h.b0, cell_kept hb h.b1, cell_kept hb h.b2, cell_kept hb h.b3, cell_kept hb h.b4, cell_kept hb h.b5, cell_kept hb h.p, cell_kept hb h.q⟩
theorem Rd.new (w : World) (HT : DatTabs w) (L : Lay) (X : ByteArray) (t u v : Nat) :
    Rd (((w.alloc (.cells #[.int .i64 L.z, .int .i64 L.d, .int .i64 L.m, .int .i64 L.y, .int .i64 L.n, .int .i64 L.c] t)).alloc (.cells #[.string X] u)).alloc (.cells #[.string X] v)) w.heap.size (w.heap.size + 1) (w.heap.size + 2) X L := by
  obtain ⟨O, hO⟩ : ∃ O, O = Obj.cells #[.int .i64 L.z, .int .i64 L.d, .int .i64 L.m, .int .i64 L.y, .int .i64 L.n, .int .i64 L.c] t := ⟨_, rfl⟩
  have h1 := heap_alloc_new w O
  have T1 := HT.kept ((Below.refl w.heap.size w).alloc (Nat.le_refl _) O)
  have s1 : (w.alloc O).heap.size = w.heap.size + 1 := by simp
  rw [← hO]
  generalize w.alloc O = w1 at *
  rw [hO] at h1
  have h2 := heap_alloc_new w1 (.cells #[.string X] u)
  have B2 := (Below.refl w1.heap.size w1).alloc (Nat.le_refl _) (.cells #[.string X] u)
  have s2 : (w1.alloc (.cells #[.string X] u)).heap.size = w1.heap.size + 1 := by simp
  generalize w1.alloc (.cells #[.string X] u) = w2 at *
  have h3 := heap_alloc_new w2 (.cells #[.string X] v)
  have B3 := (Below.refl w2.heap.size w2).alloc (Nat.le_refl _) (.cells #[.string X] v)
  generalize w2.alloc (.cells #[.string X] v) = w3 at *
  have e2 : w1.heap.size = w.heap.size + 1 := s1
  have e3 : w2.heap.size = w.heap.size + 2 := by omega
  rw [e2] at h2
  rw [e3] at h3
  have k : ∀ {a : Addr} {x : Value}, w1.cell? a = some x → w3.cell? a = some x := fun h => cell_kept B3 (cell_kept B2 h)
  exact ⟨(T1.kept B2).kept B3, k ((cell_of_row _ _ 0 _ _ _ h1).trans rfl), k ((cell_of_row _ _ 1 _ _ _ h1).trans rfl), k ((cell_of_row _ _ 2 _ _ _ h1).trans rfl), k ((cell_of_row _ _ 3 _ _ _ h1).trans rfl), k ((cell_of_row _ _ 4 _ _ _ h1).trans rfl), k ((cell_of_row _ _ 5 _ _ _ h1).trans rfl),
    cell_kept B3 ((cell_of_row _ _ 0 _ _ _ h2).trans rfl), (cell_of_row _ _ 0 _ _ _ h3).trans rfl⟩

theorem ret_ib {k : IntKind} {a b : Int} {c d : Bool} (h : a = b) (e : c = d) : Ending.returned (.tuple #[.int k a, .bool c]) = .returned (.tuple #[.int k b, .bool d]) := by rw [h, e]

set_option maxHeartbeats 4000000 in
set_option maxRecDepth 100000 in
theorem dRead_any (s : ByteArray) (L : Lay) (hL : L.Ok) (hs : s.size ≤ 10000) (w : World) (HT : DatTabs w) :
    Calls Tryz.prog 109 #[.string s, L.val] w fun e w' => e = .returned (.tuple #[.int .i64 (rd1 s L), .bool (rd2 s L)]) ∧ Below w.heap.size w w' := by
  have z1 := hL.z1
  have d0 := hL.d0
  have d1 := hL.d1
  have m0 := hL.m0
  have m1 := hL.m1
  have y0 := hL.y0
  have y1 := hL.y1
  have n0 := hL.n0
  have c0 := hL.c0
  have c1 := hL.c1
  by_cases hsz : (s.size : Int) < L.z
  · have HR : Hid (rd1 s L = 0 ∧ rd2 s L = false) := by
      refine ⟨?_, ?_⟩
      · unfold rd1; rw [if_pos (.inl hsz)]
      · unfold rd2; rw [decide_eq_false (by omega)]; rfl
    unfold Lay.val
    have hb : Below w.heap.size w (w.alloc (.cells #[.int .i64 L.z, .int .i64 L.d, .int .i64 L.m, .int .i64 L.y, .int .i64 L.n, .int .i64 L.c] 126)) := (Below.refl _ _).alloc (Nat.le_refl _) _
    go_enter Tryz.func109, Tryz.ntmps109
    go_wp2_with fail
    go_ret2
    exact ⟨ret_ib HR.out.1.symm HR.out.2.symm, hb⟩
  have hsz2 : L.z ≤ (s.size : Int) := by omega
  have hz0 : 0 ≤ L.z := by omega
  obtain ⟨X, hX⟩ : ∃ X, X = lastB s L.z := ⟨_, rfl⟩
  have hXs : (X.size : Int) = L.z := by
    rw [hX]
    unfold lastB
    rw [ByteArray.size_extract]
    omega
  have hXe : s.extract (s.size - L.z.toNat) s.size = X := hX.symm
  have hbN := dayV_bd (rdY X L) (monI X L.m) (nbrI X L.d 2)
  have hR1 : rd1 s L = if rdB X L = false then 0 else rdV X L := by
    unfold rd1
    rw [← hX]
    by_cases h : rdB X L = false
    · rw [if_pos (.inr h), if_pos h]
    · rw [if_neg (by rintro (h' | h'); omega; exact h h'), if_neg h]
  have hR2 : rd2 s L = rdB X L := by
    unfold rd2
    rw [decide_eq_true hsz2, ← hX]; rfl
  have hyb := rdY_bd X L
  have hY0 := nbrI_bd X L.y L.n
  have hYY : rdY X L = if L.n = 2 then fullY (nbrI X L.y L.n) else nbrI X L.y L.n := rfl
  have hM := monI_bd X L.m
  have hD := nbrI_bd X L.d 2
  have hH := nbrI_bd X L.c 2
  have hI := nbrI_bd X (L.c + 3) 2
  have hJ := nbrI_bd X (L.c + 6) 2
  have hV : rdV X L = dayV (rdY X L) (monI X L.m) (nbrI X L.d 2) * 86400 + nbrI X L.c 2 * 3600 + nbrI X (L.c + 3) 2 * 60 + nbrI X (L.c + 6) 2 := rfl
  have hB : rdB X L = dayB (rdY X L) (monI X L.m) (nbrI X L.d 2) := rfl
  have cd := fun W hW => days_any (rdY X L) (monI X L.m) (nbrI X L.d 2) (by omega) (by omega) (by omega) W hW
  have HXE := Lib.hid (show s.extract ((s.size : Int) - L.z).toNat s.size = X by rw [show ((s.size : Int) - L.z).toNat = s.size - L.z.toNat by omega]; exact hXe)
  clear hX hXe
  have hS := Rd.new w HT L X 126 9 9
  have hb : Below w.heap.size w (((w.alloc (.cells #[.int .i64 L.z, .int .i64 L.d, .int .i64 L.m, .int .i64 L.y, .int .i64 L.n, .int .i64 L.c] 126)).alloc (.cells #[.string X] 9)).alloc (.cells #[.string X] 9)) :=
    (((Below.refl _ _).alloc (Nat.le_refl _) _).alloc (by simp) _).alloc (by simp; omega) _
  rw [hR1, hR2]
  unfold Lay.val
  obtain ⟨z, d, m, y, n, c⟩ := L
  simp only [] at *
  obtain ⟨q3, hq3⟩ : ∃ q3, q3 = c + 3 := ⟨_, rfl⟩
  obtain ⟨q6, hq6⟩ : ∃ q6, q6 = c + 6 := ⟨_, rfl⟩
  rw [← hq3] at hI hV
  rw [← hq6] at hJ hV
  generalize rdY X ⟨z, d, m, y, n, c⟩ = Y at *
  generalize hNe : nbrI X y n = N at *
  generalize hMe : monI X m = M at *
  generalize hDe : nbrI X d 2 = D at *
  generalize hHe : nbrI X c 2 = H at *
  generalize hIe : nbrI X q3 2 = I at *
  generalize hJe : nbrI X q6 2 = J at *
  generalize rdB X ⟨z, d, m, y, n, c⟩ = B at *
  generalize rdV X ⟨z, d, m, y, n, c⟩ = V at *
  rw [← hB] at cd
  generalize dayV Y M D = U at *
  have HNN := Lib.hid hNe
  have HMM := Lib.hid hMe
  have HDD := Lib.hid hDe
  have HHH := Lib.hid hHe
  have HII := Lib.hid hIe
  have HJJ := Lib.hid hJe
  have CD := Lib.hid cd
  have HYY := Lib.hid hYY
  clear hNe hMe hDe hHe hIe hJe cd hB hYY hR1 hR2 HT hL
  have hs2 : X.size ≤ 10000 := by omega
  obtain ⟨w3, hw3⟩ : ∃ w3, w3 = (((w.alloc (.cells #[.int .i64 z, .int .i64 d, .int .i64 m, .int .i64 y, .int .i64 n, .int .i64 c] 126)).alloc (.cells #[.string X] 9)).alloc (.cells #[.string X] 9)) := ⟨_, rfl⟩
  rw [← hw3] at hS hb
  have HW := Lib.hid hw3
  have HB := Lib.hid hb
  have HS := Lib.hid hS
  clear hw3 hb hS
  obtain ⟨u1, hu1⟩ : ∃ u1, u1 = U * 86400 := ⟨_, rfl⟩
  obtain ⟨h1, hh1⟩ : ∃ h1, h1 = H * 3600 := ⟨_, rfl⟩
  obtain ⟨s1, hs1⟩ : ∃ s1, s1 = u1 + h1 := ⟨_, rfl⟩
  obtain ⟨i1, hi1⟩ : ∃ i1, i1 = I * 60 := ⟨_, rfl⟩
  obtain ⟨t2, ht2⟩ : ∃ t2, t2 = s1 + i1 := ⟨_, rfl⟩
  obtain ⟨t3, ht3⟩ : ∃ t3, t3 = t2 + J := ⟨_, rfl⟩
  have a1 : IntKind.i64.wrap (U * 86400) = u1 := (IntWalk.i64_in _ (by omega)).trans hu1.symm
  have a2 : IntKind.i64.wrap (H * 3600) = h1 := (IntWalk.i64_in _ (by omega)).trans hh1.symm
  have a3 : IntKind.i64.wrap (u1 + h1) = s1 := (IntWalk.i64_in _ (by omega)).trans hs1.symm
  have a4 : IntKind.i64.wrap (c + 3) = q3 := (IntWalk.i64_in _ (by omega)).trans hq3.symm
  have a5 : IntKind.i64.wrap (I * 60) = i1 := (IntWalk.i64_in _ (by omega)).trans hi1.symm
  have a6 : IntKind.i64.wrap (s1 + i1) = t2 := (IntWalk.i64_in _ (by omega)).trans ht2.symm
  have a7 : IntKind.i64.wrap (c + 6) = q6 := (IntWalk.i64_in _ (by omega)).trans hq6.symm
  have a8 : IntKind.i64.wrap (t2 + J) = t3 := (IntWalk.i64_in _ (by omega)).trans ht3.symm
  have HT3 : Hid (V = t3) := by
    show _ = _
    omega
  have A := Lib.hid (And.intro a1 (And.intro a2 (And.intro a3 (And.intro a4 (And.intro a5 (And.intro a6 (And.intro a7 a8)))))))
  have k3 : 0 ≤ q3 ∧ q3 + 2 ≤ z := by omega
  have k6 : 0 ≤ q6 ∧ q6 + 2 ≤ z := by omega
  clear a1 a2 a3 a4 a5 a6 a7 a8 hu1 hh1 hs1 hi1 ht2 ht3 hq3 hq6 hV
  by_cases hn : n = 2
  · have en : (n == 2) = true := by rw [hn]; rfl
    have HY : Hid ((if N + 1900 < 1970 then N + 1900 + 100 else N + 1900) = Y) := by
      have := HYY.out
      rw [if_pos hn] at this
      exact this.symm
    clear hn
    cases B with
    | false =>
      go_enter Tryz.func109, Tryz.ntmps109
      go_wp2_with fail
      rw [HXE.out]
      refine (numbers_any X _).mono ?_
      rintro e w' ⟨rfl, rfl⟩
      go_wp2_with fail
      refine (names_any X _).mono ?_
      rintro e w' ⟨rfl, rfl⟩
      rw [← HW.out]
      have hS := HS.out
      have hb := HB.out
      have g3 : w3.cell? ⟨w.heap.size, 3, none⟩ = some (.int .i64 y) := hS.b3
      have g4 : w3.cell? ⟨w.heap.size, 4, none⟩ = some (.int .i64 n) := hS.b4
      go_wp2_with fail
      refine (p_numberI X _ _ _ y0 n0 (by omega) hs2 _ hS.p).mono ?_
      rintro e w4 ⟨he, hb4⟩
      rw [HNN.out] at he
      subst he
      have hb := below_then hb hb4
      have hS := hS.kept hb4
      clear g3 g4 hb4
      have g4 : w4.cell? ⟨w.heap.size, 4, none⟩ = some (.int .i64 n) := hS.b4
      go_wp2_with fail
      refine (p_fullYear N hY0 _).mono ?_
      rintro e w5 ⟨he, rfl⟩
      rw [HY.out] at he
      subst he
      go_wp2_with fail
      clear g4
      have hS := hS.kept (Below.refl _ _).drew
      have hb := hb.drew
      have HS := Lib.hid hS
      clear hS
      go_region_held3 (fun W => W.cell? ⟨w.heap.size, 1, none⟩ = some (.int .i64 d) ∧ W.cell? ⟨w.heap.size, 2, none⟩ = some (.int .i64 m)) (exact ⟨HS.out.b1, HS.out.b2⟩) (first
        | (go_at_call 153; refine (p_nameI X _ _ m0 (by omega) _ HS.out.tabs HS.out.q).mono ?_; rintro e w5 ⟨he, hb5⟩; rw [HMM.out] at he; subst he; have hb := below_then hb hb5; have HS := Lib.hid (HS.out.kept hb5); clear hb5)
        | (go_at_call 150; refine (p_numberI X _ _ _ d0 (by omega) (by omega) hs2 _ HS.out.p).mono ?_; rintro e w6 ⟨he, hb6⟩; rw [HDD.out] at he; subst he; have hb := below_then hb hb6; have HS := Lib.hid (HS.out.kept hb6); clear hb6)
        | (go_at_call 134; refine (CD.out _ HS.out.tabs).mono ?_; rintro e w7 ⟨he, hb7⟩; subst he; have hb := below_then hb hb7; have HS := Lib.hid (HS.out.kept hb7); clear hb7))
      go_wp2_with fail
      go_ret2
      exact ⟨rfl, hb⟩
    | true =>
      go_enter Tryz.func109, Tryz.ntmps109
      go_wp2_with fail
      rw [HXE.out]
      refine (numbers_any X _).mono ?_
      rintro e w' ⟨rfl, rfl⟩
      go_wp2_with fail
      refine (names_any X _).mono ?_
      rintro e w' ⟨rfl, rfl⟩
      rw [← HW.out]
      have hS := HS.out
      have hb := HB.out
      have g3 : w3.cell? ⟨w.heap.size, 3, none⟩ = some (.int .i64 y) := hS.b3
      have g4 : w3.cell? ⟨w.heap.size, 4, none⟩ = some (.int .i64 n) := hS.b4
      go_wp2_with fail
      refine (p_numberI X _ _ _ y0 n0 (by omega) hs2 _ hS.p).mono ?_
      rintro e w4 ⟨he, hb4⟩
      rw [HNN.out] at he
      subst he
      have hb := below_then hb hb4
      have hS := hS.kept hb4
      clear g3 g4 hb4
      have g4 : w4.cell? ⟨w.heap.size, 4, none⟩ = some (.int .i64 n) := hS.b4
      go_wp2_with fail
      refine (p_fullYear N hY0 _).mono ?_
      rintro e w5 ⟨he, rfl⟩
      rw [HY.out] at he
      subst he
      go_wp2_with fail
      clear g4
      have hS := hS.kept (Below.refl _ _).drew
      have hb := hb.drew
      have HS := Lib.hid hS
      clear hS
      go_region_held3 (fun W => W.cell? ⟨w.heap.size, 1, none⟩ = some (.int .i64 d) ∧ W.cell? ⟨w.heap.size, 2, none⟩ = some (.int .i64 m)) (exact ⟨HS.out.b1, HS.out.b2⟩) (first
        | (go_at_call 153; refine (p_nameI X _ _ m0 (by omega) _ HS.out.tabs HS.out.q).mono ?_; rintro e w5 ⟨he, hb5⟩; rw [HMM.out] at he; subst he; have hb := below_then hb hb5; have HS := Lib.hid (HS.out.kept hb5); clear hb5)
        | (go_at_call 150; refine (p_numberI X _ _ _ d0 (by omega) (by omega) hs2 _ HS.out.p).mono ?_; rintro e w6 ⟨he, hb6⟩; rw [HDD.out] at he; subst he; have hb := below_then hb hb6; have HS := Lib.hid (HS.out.kept hb6); clear hb6)
        | (go_at_call 134; refine (CD.out _ HS.out.tabs).mono ?_; rintro e w7 ⟨he, hb7⟩; subst he; have hb := below_then hb hb7; have HS := Lib.hid (HS.out.kept hb7); clear hb7))
      go_wp2_with fail
      have hb := hb.drew
      have HS := Lib.hid (HS.out.kept (Below.refl _ _).drew)
      obtain ⟨a1, a2, a3, a4, a5, a6, a7, a8⟩ := A.out
      go_region_held3 (fun W => W.cell? ⟨w.heap.size, 5, none⟩ = some (.int .i64 c)) (exact HS.out.b5) (first
        | (go_at_call 150; refine (p_numberI X _ _ _ (by omega) (by omega) (by omega) hs2 _ HS.out.p).mono ?_; rintro e w6 ⟨he, hb6⟩; (first | (rw [HHH.out] at he; subst he) | (rw [HII.out] at he; subst he) | (rw [HJJ.out] at he; subst he)); have hb := below_then hb hb6; have HS := Lib.hid (HS.out.kept hb6); clear hb6))
      go_wp2_with fail
      go_ret2
      exact ⟨by rw [HT3.out]; rfl, hb⟩
  · have en : (n == 2) = false := by rw [beq_eq_false_iff_ne]; exact hn
    have HY : Y = N := by
      have := HYY.out
      rwa [if_neg hn] at this
    subst HY
    clear hn
    cases B with
    | false =>
      go_enter Tryz.func109, Tryz.ntmps109
      go_wp2_with fail
      rw [HXE.out]
      refine (numbers_any X _).mono ?_
      rintro e w' ⟨rfl, rfl⟩
      go_wp2_with fail
      refine (names_any X _).mono ?_
      rintro e w' ⟨rfl, rfl⟩
      rw [← HW.out]
      have hS := HS.out
      have hb := HB.out
      have g3 : w3.cell? ⟨w.heap.size, 3, none⟩ = some (.int .i64 y) := hS.b3
      have g4 : w3.cell? ⟨w.heap.size, 4, none⟩ = some (.int .i64 n) := hS.b4
      go_wp2_with fail
      refine (p_numberI X _ _ _ y0 n0 (by omega) hs2 _ hS.p).mono ?_
      rintro e w4 ⟨he, hb4⟩
      rw [HNN.out] at he
      subst he
      have hb := below_then hb hb4
      have hS := hS.kept hb4
      clear g3 g4 hb4
      have g4 : w4.cell? ⟨w.heap.size, 4, none⟩ = some (.int .i64 n) := hS.b4
      go_wp2_with fail
      clear g4
      have hS := hS.kept (Below.refl _ _).drew
      have hb := hb.drew
      have HS := Lib.hid hS
      clear hS
      go_region_held3 (fun W => W.cell? ⟨w.heap.size, 1, none⟩ = some (.int .i64 d) ∧ W.cell? ⟨w.heap.size, 2, none⟩ = some (.int .i64 m)) (exact ⟨HS.out.b1, HS.out.b2⟩) (first
        | (go_at_call 153; refine (p_nameI X _ _ m0 (by omega) _ HS.out.tabs HS.out.q).mono ?_; rintro e w5 ⟨he, hb5⟩; rw [HMM.out] at he; subst he; have hb := below_then hb hb5; have HS := Lib.hid (HS.out.kept hb5); clear hb5)
        | (go_at_call 150; refine (p_numberI X _ _ _ d0 (by omega) (by omega) hs2 _ HS.out.p).mono ?_; rintro e w6 ⟨he, hb6⟩; rw [HDD.out] at he; subst he; have hb := below_then hb hb6; have HS := Lib.hid (HS.out.kept hb6); clear hb6)
        | (go_at_call 134; refine (CD.out _ HS.out.tabs).mono ?_; rintro e w7 ⟨he, hb7⟩; subst he; have hb := below_then hb hb7; have HS := Lib.hid (HS.out.kept hb7); clear hb7))
      go_wp2_with fail
      go_ret2
      exact ⟨rfl, hb⟩
    | true =>
      go_enter Tryz.func109, Tryz.ntmps109
      go_wp2_with fail
      rw [HXE.out]
      refine (numbers_any X _).mono ?_
      rintro e w' ⟨rfl, rfl⟩
      go_wp2_with fail
      refine (names_any X _).mono ?_
      rintro e w' ⟨rfl, rfl⟩
      rw [← HW.out]
      have hS := HS.out
      have hb := HB.out
      have g3 : w3.cell? ⟨w.heap.size, 3, none⟩ = some (.int .i64 y) := hS.b3
      have g4 : w3.cell? ⟨w.heap.size, 4, none⟩ = some (.int .i64 n) := hS.b4
      go_wp2_with fail
      refine (p_numberI X _ _ _ y0 n0 (by omega) hs2 _ hS.p).mono ?_
      rintro e w4 ⟨he, hb4⟩
      rw [HNN.out] at he
      subst he
      have hb := below_then hb hb4
      have hS := hS.kept hb4
      clear g3 g4 hb4
      have g4 : w4.cell? ⟨w.heap.size, 4, none⟩ = some (.int .i64 n) := hS.b4
      go_wp2_with fail
      clear g4
      have hS := hS.kept (Below.refl _ _).drew
      have hb := hb.drew
      have HS := Lib.hid hS
      clear hS
      go_region_held3 (fun W => W.cell? ⟨w.heap.size, 1, none⟩ = some (.int .i64 d) ∧ W.cell? ⟨w.heap.size, 2, none⟩ = some (.int .i64 m)) (exact ⟨HS.out.b1, HS.out.b2⟩) (first
        | (go_at_call 153; refine (p_nameI X _ _ m0 (by omega) _ HS.out.tabs HS.out.q).mono ?_; rintro e w5 ⟨he, hb5⟩; rw [HMM.out] at he; subst he; have hb := below_then hb hb5; have HS := Lib.hid (HS.out.kept hb5); clear hb5)
        | (go_at_call 150; refine (p_numberI X _ _ _ d0 (by omega) (by omega) hs2 _ HS.out.p).mono ?_; rintro e w6 ⟨he, hb6⟩; rw [HDD.out] at he; subst he; have hb := below_then hb hb6; have HS := Lib.hid (HS.out.kept hb6); clear hb6)
        | (go_at_call 134; refine (CD.out _ HS.out.tabs).mono ?_; rintro e w7 ⟨he, hb7⟩; subst he; have hb := below_then hb hb7; have HS := Lib.hid (HS.out.kept hb7); clear hb7))
      go_wp2_with fail
      have hb := hb.drew
      have HS := Lib.hid (HS.out.kept (Below.refl _ _).drew)
      obtain ⟨a1, a2, a3, a4, a5, a6, a7, a8⟩ := A.out
      go_region_held3 (fun W => W.cell? ⟨w.heap.size, 5, none⟩ = some (.int .i64 c)) (exact HS.out.b5) (first
        | (go_at_call 150; refine (p_numberI X _ _ _ (by omega) (by omega) (by omega) hs2 _ HS.out.p).mono ?_; rintro e w6 ⟨he, hb6⟩; (first | (rw [HHH.out] at he; subst he) | (rw [HII.out] at he; subst he) | (rw [HJJ.out] at he; subst he)); have hb := below_then hb hb6; have HS := Lib.hid (HS.out.kept hb6); clear hb6))
      go_wp2_with fail
      go_ret2
      exact ⟨by rw [HT3.out]; rfl, hb⟩

end Go.Proofs.YtjkfdjolhmgemaaGreatDoor
end

/-
  Plain facts on what package date's read finds in the three forms, and on what its Parse answers.
-/
section
namespace Go.Proofs.YtjkfdjolhmgemaaGreatDoor
open Go.RowKit

def layF : Lay := ⟨24, 0, 3, 7, 4, 12⟩
def layO : Lay := ⟨22, 0, 3, 7, 2, 10⟩
def layP : Lay := ⟨20, 4, 0, 16, 4, 7⟩
theorem layF_ok : layF.Ok := ⟨by decide, by decide, by decide, by decide, by decide, by decide, by decide, by decide, by decide, by decide⟩
theorem layO_ok : layO.Ok := ⟨by decide, by decide, by decide, by decide, by decide, by decide, by decide, by decide, by decide, by decide⟩
theorem layP_ok : layP.Ok := ⟨by decide, by decide, by decide, by decide, by decide, by decide, by decide, by decide, by decide, by decide⟩

theorem lastB_list (s : ByteArray) (z : Int) : (lastB s z).data.toList = s.data.toList.drop (s.size - z.toNat) := by
  unfold lastB
  rw [piece_ext]
  unfold piece
  rw [List.take_of_length_le (by rw [List.length_drop, ← Lib.size_eq]; omega)]; rfl
theorem nbr_at {t : ByteArray} {l : List UInt8} (ht : t.data.toList = l) (a n : Int) (A k : Nat) (ha : a = A) (hn : n = k) (p : List UInt8) (hp : (l.drop A).take k = p) (v : Nat) (hv : numN 10 18 9999 (p.dropWhile (· == 32)) = v) : nbrI t a n = v := by
  subst ha hn
  unfold nbrI nbrN piece
  rw [ht, Int.toNat_natCast, Int.toNat_natCast, Nat.add_sub_cancel_left, hp, hv]
theorem mon_at {t : ByteArray} {l : List UInt8} (ht : t.data.toList = l) (a : Int) (A : Nat) (ha : a = A) (M : Nat) (h0 : 1 ≤ M) (h1 : M ≤ 12) (hp : (l.drop A).take 3 = monL M) : monI t a = M := by
  subst ha
  unfold monI monN
  rw [ht, Int.toNat_natCast, hp, mIdx_mon M (by omega) h0, if_neg (by omega)]
theorem dch_ink : ∀ d : Nat, d < 10 → (dch d == 32) = false := by decide
theorem two_drop (n : Nat) (h : n < 100) : numN 10 18 9999 ((two n).dropWhile (· == 32)) = n := by
  have e : (two n).dropWhile (· == 32) = two n := by
    unfold two
    rw [List.dropWhile_cons, dch_ink _ (by omega)]; rfl
  rw [e, (num_two n h).1]
theorem four_drop (n : Nat) (h : n < 10000) : numN 10 18 9999 ((four n).dropWhile (· == 32)) = n := by
  have e : (four n).dropWhile (· == 32) = four n := by
    unfold four
    rw [List.dropWhile_cons, dch_ink _ (by omega)]; rfl
  rw [e, (num_four n h).1]
theorem twoL_drop (n : Nat) (h : n < 100) : numN 10 18 9999 ((twoL n).dropWhile (· == 32)) = n := by
  unfold twoL
  by_cases h10 : n < 10
  · rw [if_pos h10, plain_one h10, List.dropWhile_cons, List.dropWhile_cons, dch_ink n h10]
    exact (num_one n h10).1
  · rw [if_neg h10, plain_two (by omega) h]
    exact two_drop n h

theorem dRd_at {t : ByteArray} (L : Lay) {T Y M E : Nat} (hp : Parts T Y M E) (hY : rdY t L = Y) (hM : monI t L.m = M) (hD : nbrI t L.d 2 = E) (hH : nbrI t L.c 2 = ((T % 86400 / 3600 : Nat) : Int)) (hI : nbrI t (L.c + 3) 2 = ((T % 86400 / 60 % 60 : Nat) : Int)) (hJ : nbrI t (L.c + 6) 2 = ((T % 86400 % 60 : Nat) : Int)) :
    rdB t L = true ∧ rdV t L = T := by
  have v := hp.date.v
  have hv : ValidI (Y : Int) (M : Int) (E : Int) := ⟨by have := v.y0; omega, by have := v.y1; omega, by have := v.m0; omega, by have := v.m1; omega, by have := v.d0; omega, by have := v.d1; simp only [Int.toNat_natCast]; omega⟩
  have hday := day_yes hv
  simp only [Int.toNat_natCast] at hday
  have he := hp.date.e
  unfold rdB rdV
  rw [hY, hM, hD, hH, hI, hJ, hday.1, hday.2, he]
  exact ⟨rfl, by omega⟩
theorem rd12 {s : ByteArray} {L : Lay} {T : Int} (hz : L.z ≤ (s.size : Int)) (h : rdB (lastB s L.z) L = true ∧ rdV (lastB s L.z) L = T) : rd1 s L = T ∧ rd2 s L = true := by
  unfold rd1 rd2
  rw [if_neg (by rw [h.1]; rintro (h' | h'); omega; cases h'), h.2, h.1, decide_eq_true hz]
  exact ⟨rfl, rfl⟩

theorem f_back {s : ByteArray} {T : Nat} (h : T ≤ 253402300799) (hs : s.data.toList = fmtL T) : rd1 s layF = T ∧ rd2 s layF = true := by
  obtain ⟨Y, M, E, hp⟩ := parts_of T h
  obtain ⟨⟨b1, b2⟩, ⟨b3, b4⟩, b5, b6⟩ := hp.bd
  have hlen := fmt_len h
  have hz : s.size = 29 := by rw [Lib.size_eq, hs, hlen]
  obtain ⟨a, b, c, x, y, z, hm, hl⟩ := fmt_list hp
  have ht : (lastB s layF.z).data.toList = two E ++ [32, x, y, z, 32] ++ four Y ++ [32] ++ two (T % 86400 / 3600) ++ [58] ++ two (T % 86400 / 60 % 60) ++ [58] ++ two (T % 86400 % 60) ++ [32, 71, 77, 84] := by
    rw [lastB_list, hz, hs, hl]; rfl
  refine rd12 (by rw [hz]; decide) (dRd_at layF hp ?_ ?_ ?_ ?_ ?_ ?_)
  · show (if (4 : Int) = 2 then _ else _) = _
    rw [if_neg (by decide)]
    exact nbr_at ht _ _ 7 4 rfl rfl (four Y) rfl Y (four_drop Y (by omega))
  · exact mon_at ht _ 3 rfl M b3 b4 (by rw [hm]; rfl)
  · exact nbr_at ht _ _ 0 2 rfl rfl (two E) rfl E (two_drop E (by omega))
  · exact nbr_at ht _ _ 12 2 rfl rfl _ rfl _ (two_drop _ (by omega))
  · exact nbr_at ht _ _ 15 2 rfl rfl _ rfl _ (two_drop _ (by omega))
  · exact nbr_at ht _ _ 18 2 rfl rfl _ rfl _ (two_drop _ (by omega))
theorem o_back {s : ByteArray} {T : Nat} (h : T ≤ 3155759999) (hs : s.data.toList = oldL T) : rd1 s layO = T ∧ rd2 s layO = true := by
  obtain ⟨Y, M, E, hp⟩ := parts_of T (by omega)
  obtain ⟨⟨b1, b2⟩, ⟨b3, b4⟩, b5, b6⟩ := hp.bd
  have hY := old_year hp h
  obtain ⟨x, y, z, hm, hl⟩ := old_list hp
  have hd := day_len _ (wd_lt (T / 86400))
  obtain ⟨D, hD⟩ : ∃ D, D = dayL (wdD (T / 86400)) := ⟨_, rfl⟩
  rw [← hD] at hl hd
  obtain ⟨R, hR⟩ : ∃ R, R = two E ++ [45, x, y, z, 45] ++ two (Y % 100) ++ [32] ++ two (T % 86400 / 3600) ++ [58] ++ two (T % 86400 / 60 % 60) ++ [58] ++ two (T % 86400 % 60) ++ [32, 71, 77, 84] := ⟨_, rfl⟩
  have hl2 : oldL T = D ++ [44, 32] ++ R := by rw [hl, hR]; simp
  have hRl : R.length = 22 := by rw [hR]; simp [two]
  have hz : s.size = D.length + 24 := by rw [Lib.size_eq, hs, hl2]; simp [hRl]
  have ht : (lastB s layO.z).data.toList = R := by
    rw [lastB_list, hz, hs, hl2, show D.length + 24 - layO.z.toNat = (D ++ [44, 32]).length by simp [layO], List.drop_left]
  rw [hR] at ht
  refine rd12 (by rw [hz]; show (22 : Int) ≤ _; omega) (dRd_at layO hp ?_ ?_ ?_ ?_ ?_ ?_)
  · show (if (2 : Int) = 2 then fullY (nbrI _ 7 2) else _) = _
    rw [if_pos rfl, nbr_at ht 7 2 7 2 rfl rfl (two (Y % 100)) rfl (Y % 100) (two_drop _ (by omega))]
    unfold fullY
    split <;> omega
  · exact mon_at ht _ 3 rfl M b3 b4 (by rw [hm]; rfl)
  · exact nbr_at ht _ _ 0 2 rfl rfl (two E) rfl E (two_drop E (by omega))
  · exact nbr_at ht _ _ 10 2 rfl rfl _ rfl _ (two_drop _ (by omega))
  · exact nbr_at ht _ _ 13 2 rfl rfl _ rfl _ (two_drop _ (by omega))
  · exact nbr_at ht _ _ 16 2 rfl rfl _ rfl _ (two_drop _ (by omega))
theorem p_back {s : ByteArray} {T : Nat} (h : T ≤ 253402300799) (hs : s.data.toList = plnL T) : rd1 s layP = T ∧ rd2 s layP = true := by
  obtain ⟨Y, M, E, hp⟩ := parts_of T h
  obtain ⟨⟨b1, b2⟩, ⟨b3, b4⟩, b5, b6⟩ := hp.bd
  have hlen := pln_len h
  have hz : s.size = 24 := by rw [Lib.size_eq, hs, hlen]
  obtain ⟨a, b, c, x, y, z, u, v, hm, hu, hl⟩ := pln_list hp
  have ht : (lastB s layP.z).data.toList = [x, y, z, 32, u, v, 32] ++ two (T % 86400 / 3600) ++ [58] ++ two (T % 86400 / 60 % 60) ++ [58] ++ two (T % 86400 % 60) ++ [32] ++ four Y := by
    rw [lastB_list, hz, hs, hl]; rfl
  refine rd12 (by rw [hz]; decide) (dRd_at layP hp ?_ ?_ ?_ ?_ ?_ ?_)
  · show (if (4 : Int) = 2 then _ else _) = _
    rw [if_neg (by decide)]
    exact nbr_at ht _ _ 16 4 rfl rfl (four Y) rfl Y (four_drop Y (by omega))
  · exact mon_at ht _ 0 rfl M b3 b4 (by rw [hm]; rfl)
  · exact nbr_at ht _ _ 4 2 rfl rfl (twoL E) (by rw [hu]; rfl) E (twoL_drop E (by omega))
  · exact nbr_at ht _ _ 7 2 rfl rfl _ rfl _ (two_drop _ (by omega))
  · exact nbr_at ht _ _ 10 2 rfl rfl _ rfl _ (two_drop _ (by omega))
  · exact nbr_at ht _ _ 13 2 rfl rfl _ rfl _ (two_drop _ (by omega))

/-- Is a text one of the forms of a time? -/
def oneB (l : List UInt8) (t : Int) : Bool := l == fmtI t || (l == oldI t || l == plnI t)
def hitB (s : ByteArray) (L : Lay) : Bool := rd2 s L && oneB s.data.toList (rd1 s L)
theorem one_reads {l : List UInt8} {t : Int} (hl : l ≠ []) (h : oneB l t = true) : ∃ T : Nat, t = T ∧ Reads l T := by
  unfold oneB at h
  simp only [Bool.or_eq_true, beq_iff_eq] at h
  rcases h with h | h | h
  · unfold fmtI at h
    split at h
    · rename_i hb
      exact ⟨t.toNat, by omega, .inl ⟨by omega, .inl h.symm⟩⟩
    · exact absurd h hl
  · unfold oldI at h
    split at h
    · rename_i hb
      exact ⟨t.toNat, by omega, .inr ⟨by omega, h.symm⟩⟩
    · exact absurd h hl
  · unfold plnI at h
    split at h
    · rename_i hb
      exact ⟨t.toNat, by omega, .inl ⟨by omega, .inr h.symm⟩⟩
    · exact absurd h hl
theorem parT_at {s : ByteArray} {t : Nat} (h : Reads s.data.toList t) : parT s = ((t : Int), 0) := by
  rcases parT_spec s with ⟨u, hu, hr⟩ | ⟨_, hn⟩
  · rw [hu, hr.uniq h]
  · exact absurd h (hn t)
theorem hit_par {s : ByteArray} {L : Lay} (hz : 1 ≤ L.z) (h : hitB s L = true) : parT s = (rd1 s L, 0) := by
  unfold hitB at h
  rw [Bool.and_eq_true] at h
  have hs : s.data.toList ≠ [] := by
    intro e
    have h1 := h.1
    unfold rd2 at h1
    rw [Bool.and_eq_true, decide_eq_true_iff, Lib.size_eq, e] at h1
    have := h1.1
    simp at this
    omega
  obtain ⟨T, hT, hr⟩ := one_reads hs h.2
  rw [parT_at hr, hT]
theorem hit_no {s : ByteArray} (h1 : hitB s layF = false) (h2 : hitB s layO = false) (h3 : hitB s layP = false) : parT s = (0, 24) := by
  rcases parT_spec s with ⟨T, _, hr⟩ | ⟨h, _⟩
  · exfalso
    rcases hr with ⟨hb, h | h⟩ | ⟨hb, h⟩
    · obtain ⟨r1, r2⟩ := f_back hb h.symm
      unfold hitB at h1
      rw [r1, r2] at h1
      simp [oneB, fmtI_nat T hb, h] at h1
    · obtain ⟨r1, r2⟩ := p_back hb h.symm
      unfold hitB at h3
      rw [r1, r2] at h3
      simp [oneB, plnI_nat T hb, h] at h3
    · obtain ⟨r1, r2⟩ := o_back hb h.symm
      unfold hitB at h2
      rw [r1, r2] at h2
      simp [oneB, oldI_nat T hb, h] at h2
  · exact h

end Go.Proofs.YtjkfdjolhmgemaaGreatDoor
end
