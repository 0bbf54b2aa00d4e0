/-
  Texts that the laws of this seat lean on, one behind the other.
-/
import Derived.Test.YthhlcecojeaalaaDoorMrgAI
import Derived.Test.YthhlcecojeaalaaDoorMrgAJ
set_option linter.unusedSimpArgs false
set_option linter.unusedVariables false
/-
  Contract of the reference's Decode (layer 20).
-/
section
namespace Go.Proofs.YthhlcecojeaalaaDoor
open Go.RowKit
set_option linter.unusedSimpArgs false

theorem IsR.new (w : World) (A : Option Addr) (n c : Nat) (l : List UInt8) (h : Sl8 w A n c l) : IsR (w.alloc (.cells #[.slice A n c, .int .i64 0, .int .i64 0] 83)) w.heap.size A n c l (0, 0) :=
  ⟨heap_alloc_new w _, h.alloc _, Nat.zero_le _⟩
/-- A reader is as it was, where its block and its bytes are. -/
theorem IsR.but {w w' : World} {R S : Nat} {A : Option Addr} {n c : Nat} {l : List UInt8} {x : RS} (h : IsR w R A n c l x) (hs : Sl8 w' A n c l) (hR : R ≠ S) (hb : ButB S w w') : IsR w' R A n c l x :=
  ⟨(hb.block R h.lt hR).trans h.1, hs, h.2.2⟩
theorem row7 {w : World} {g t : Nat} {c0 c1 c2 c3 c4 c5 c6 : Value} (h : w.heap[g]? = some (.cells #[c0, c1, c2, c3, c4, c5, c6] t (0, 0))) (k : Nat) (u : Value) (hu : #[c0, c1, c2, c3, c4, c5, c6][k]? = some u) :
    w.cell? ⟨g, k, none⟩ = some u ∧ w.frozen? ⟨g, k, none⟩ = false :=
  ⟨by rw [cell_of_row _ _ _ _ _ _ h]; exact hu, by simp [World.frozen?, h]⟩
theorem row_set {w : World} {g t : Nat} {cs : Array Value} (h : w.heap[g]? = some (.cells cs t (0, 0))) (k : Nat) (u : Value) : (w.setCell ⟨g, k, none⟩ u).heap[g]? = some (.cells (cs.setIfInBounds k u) t (0, 0)) := by
  simp [World.setCell, Array.getElem?_modify, h]
theorem row_at {w : World} {g t : Nat} {cs : Array Value} (h : w.heap[g]? = some (.cells cs t (0, 0))) (k : Nat) (u : Value) (hu : cs[k]? = some u) : w.cell? ⟨g, k, none⟩ = some u ∧ w.frozen? ⟨g, k, none⟩ = false :=
  ⟨by rw [cell_of_row _ _ _ _ _ _ h]; exact hu, by simp [World.frozen?, h]⟩
theorem SlF.oneAt' (w : World) (t : TypeId) (x : Fd) (hz : x.1.size ≤ maxLen ∧ x.2.size ≤ maxLen) {g : Nat} (hg : w.heap.size = g) : SlF (w.alloc (.cells #[.string x.1, .string x.2] t)) (some ⟨g, 0, none⟩) 1 1 [x] := by
  subst hg
  exact SlF.one w t x hz
theorem own_form {w : World} {base e k m : Nat} {v : Value} {cs : List Value} (h : w.ownsRow base e k v m cs) : ∃ A c, v = .slice A m c := by
  rcases h.2 with ⟨q, h0⟩ | ⟨g, cap, cur, q, _⟩
  · exact ⟨none, 0, by rw [q, h0]⟩
  · exact ⟨_, cap, q⟩
theorem slf_own {w : World} {base e n c : Nat} {A : Option Addr} {X : List Fd} (h : OwnF w base e (.slice A n c) X) (hz : ∀ z ∈ X, z.1.size ≤ maxLen ∧ z.2.size ≤ maxLen) : SlF w A n c X := by
  obtain ⟨A', c', q, hs⟩ := SlF.of_own h hz
  simp only [Value.slice.injEq] at q
  obtain ⟨rfl, rfl, rfl⟩ := q
  exact hs
theorem slk_own {w : World} {base e n c : Nat} {A : Option Addr} {X : List Pk} (h : OwnK w base e (.slice A n c) X) (hz : ∀ z ∈ X, z.n.size ≤ maxLen ∧ z.v.size ≤ maxLen) : SlK w A n c X := by
  obtain ⟨A', c', q, hs⟩ := SlK.of_own h hz
  simp only [Value.slice.injEq] at q
  obtain ⟨rfl, rfl, rfl⟩ := q
  exact hs
theorem IsR.move {w w' : World} {R : Nat} {A : Option Addr} {n c : Nat} {l : List UInt8} {x : RS} (h : IsR w R A n c l x) (hs : Sl8 w' A n c l) (hr : w'.heap[R]? = w.heap[R]?) : IsR w' R A n c l x := ⟨hr.trans h.1, hs, h.2.2⟩
theorem ButB.thenBelow {w w' w'' : World} {R b : Nat} (h : ButB R w w') (k : Below b w' w'') (hb : w.heap.size ≤ b) : ButB R w w'' :=
  ⟨k.os.trans h.os, k.tape.trans h.tape, k.output.trans h.output, Nat.le_trans h.size k.size, fun i hi hR => (k.block i (by omega)).trans (h.block i hi hR)⟩
theorem numR_nat {k : Nat} {lo hi : Int} (l : List UInt8) (x : RS) (h : 0 ≤ lo) (h2 : 0 ≤ hi) : ∃ N : Nat, (numR k lo hi l x).1 = (N : Int) ∧ (N : Int) ≤ hi := by
  rcases numR_bd (k := k) (lo := lo) (hi := hi) l x with e | ⟨h0, h1⟩
  · exact ⟨0, by rw [e]; rfl, h2⟩
  · exact ⟨(numR k lo hi l x).1.toNat, by omega, by omega⟩

set_option maxHeartbeats 16000000 in
set_option maxRecDepth 100000 in
theorem r_vdecode (A : Option Addr) (n c : Nat) (l : List UInt8) (w : World) (h : Sl8 w A n c l) (hl : l.length ≤ 1000000) :
    Calls Tryd.prog 22 #[.slice A n c] w fun e w' => ∃ A' n' c' L, e = .returned (.tuple #[.slice A' n' c', .int .i64 (vdE l)]) ∧ SlD w' A' n' c' L ∧ (L.map fun z => z.x) = vdL l ∧ Below w.heap.size w w' := by
  have HH := Lib.hid h
  have HLL := Lib.hid hl
  have hlen := h.len
  have hn6 : (n : Int) ≤ 1000000 := by omega
  clear h hlen
  go_enter Tryd.func22, Tryd.ntmps22
  go_wp2_with fail
  refine (rr_numX w.heap.size l (0, 0) 0 4 1 1 rfl _ A n c (IsR.new w A n c l HH.out) HLL.out (by decide) (by decide)).mono ?_
  rintro e w1 ⟨rfl, hx, hb⟩
  have hat := vnt_at l
  obtain ⟨N, hN, hN4⟩ := numR_nat (k := 1) (lo := 0) (hi := 4) l (0, 0) (by decide) (by decide)
  rw [hN, Int.toNat_natCast] at hat
  rw [hN]
  have HX := Lib.hid hx
  have HAT := Lib.hid hat
  have HB : Hid (Below w.heap.size w w1) := Below.trans ((Below.refl _ _).alloc (Nat.le_refl _) _) (hb.below (Below.alloc (Below.refl w.heap.size w) (Nat.le_refl _) _).size (Nat.le_refl _))
  clear hx hb hat hN
  go_wp2_with fail
  go_loopw [5, 7] (fun v i wr => ∃ (j : Nat) (L : List Sd) (x : RS), j ≤ N ∧ i = .int .i64 (j : Int) ∧ Hid (L.length = j) ∧ Hid (OwnD wr (w.heap.size + 1) 28 v L) ∧ Hid (∀ y ∈ L, SdTy wr y ∧ y.x.s.r.size ≤ maxLen ∧ y.x.s.b.size ≤ maxLen) ∧ Hid (IsR wr w.heap.size A n c l x) ∧ Hid (Below w.heap.size w wr) ∧ Hid (At l (vntP l) x (vntK N j (L.map fun z => z.x)))) (fun _ i _ => N - (intOf i).toNat)
  case atStart => exact ⟨0, [], _, Nat.zero_le _, rfl, rfl, OwnD.nil _ _ _, (fun y hy => by cases hy), HX.out, HB.out, HAT.out⟩
  case round =>
    clear HX HB HAT
    obtain ⟨wO, hwO⟩ : ∃ W : World, W = wr := ⟨_, rfl⟩
    obtain ⟨v0, hv0⟩ : ∃ v, v = u5 := ⟨_, rfl⟩
    subst hv0
    subst hwO
    obtain ⟨j, L, x, hj, rfl, HLE, HO, HALL, HX, HB, HAT⟩ := hrel
    have hj0 : (0 : Int) ≤ (j : Int) := by omega
    have d2 := (r_cells HX.out.1).2.2.1
    obtain ⟨I, E⟩ := x
    simp only at d2
    by_cases hlt : j < N
    · have hi1 : (j : Int) < (N : Int) := by omega
      by_cases hE : E = 0
      · subst hE
        have HA := Lib.hid (vntK_go HAT.out hlt)
        obtain ⟨x0, hx0⟩ : ∃ x, x = ((I, 0) : RS) := ⟨_, rfl⟩
        rw [← hx0] at HX HA
        have HLT := Lib.hid hx0
        clear hx0 HAT
        obtain ⟨gS, hgS⟩ : ∃ g, g = wO.heap.size := ⟨_, rfl⟩
        have hRS : w.heap.size < gS := by rw [hgS]; exact HX.out.lt
        have HRS := Lib.hid hRS
        have HS0 := Lib.hid (heap_alloc_new wO (.cells #[.int .i64 0, .string ⟨#[]⟩, .int .i64 0, .slice none 0 0, .string ⟨#[]⟩, .int .i64 0, .slice none 0 0] 28))
        have HX0 := Lib.hid (HX.out.below ((Below.refl _ _).alloc (Nat.le_refl _) (.cells #[.int .i64 0, .string ⟨#[]⟩, .int .i64 0, .slice none 0 0, .string ⟨#[]⟩, .int .i64 0, .slice none 0 0] 28)))
        have HQ0 : Hid (ButB w.heap.size wO (wO.alloc (.cells #[.int .i64 0, .string ⟨#[]⟩, .int .i64 0, .slice none 0 0, .string ⟨#[]⟩, .int .i64 0, .slice none 0 0] 28))) := (ButB.refl _ _).allocNew _
        clear hRS
        go_wp2_with fail
        refine (rr_numX w.heap.size l x0 0 253402300799 5 5 rfl _ A n c HX0.out HLL.out (by decide) (by decide)).mono ?_
        rintro e v1 ⟨rfl, hx, hb⟩
        
        have ha := num_step HA.out
        
        obtain ⟨y, hy⟩ : ∃ y, y = numR 5 0 253402300799 l x0 := ⟨_, rfl⟩
        rw [← hy] at hx ha 
        obtain ⟨st, x1⟩ := y
        simp only at hx ha 
        
        have HA1 := Lib.hid ha
        have HQ := Lib.hid (HQ0.out.trans hb)
        have HSa := Lib.hid ((hb.block wO.heap.size (Array.getElem?_eq_some_iff.1 HS0.out).1 (by have := HRS.out; rw [hgS] at this; omega)).trans HS0.out)
        rw [← congrArg Prod.fst hy]
        simp only
        obtain ⟨k0, k1⟩ := row7 HSa.out 5 _ rfl
        have HS1 := Lib.hid (row_set HSa.out 5 (.int .i64 st))
        have HQ1 : Hid (ButB w.heap.size wO (v1.setCell ⟨wO.heap.size, 5, none⟩ (.int .i64 st))) := HQ.out.setNew (Nat.le_refl _) _
        have HX1 : Hid (IsR (v1.setCell ⟨wO.heap.size, 5, none⟩ (.int .i64 st)) w.heap.size A n c l x1) := hx.but (HH.out.below (HB.out.trans (HQ1.out.below HB.out.size (Nat.le_refl _)))) (by have := HRS.out; rw [hgS] at this; omega) ((ButB.refl wO.heap.size v1).setCell 5 _)
        clear hx hb ha hy HQ HSa  d2
        go_wp2_with fail
        refine (rr_numX w.heap.size l x1 200 599 2 2 rfl _ A n c HX1.out HLL.out (by decide) (by decide)).mono ?_
        rintro e v2 ⟨rfl, hx, hb⟩
        clear k0 k1
        have ha := num_step HA1.out
        
        obtain ⟨y, hy⟩ : ∃ y, y = numR 2 200 599 l x1 := ⟨_, rfl⟩
        rw [← hy] at hx ha 
        obtain ⟨sc, x2⟩ := y
        simp only at hx ha 
        
        have HA2 := Lib.hid ha
        have HQ := Lib.hid (HQ1.out.trans hb)
        have HSa := Lib.hid ((hb.block wO.heap.size (Array.getElem?_eq_some_iff.1 HS1.out).1 (by have := HRS.out; rw [hgS] at this; omega)).trans HS1.out)
        rw [← congrArg Prod.fst hy]
        simp only
        obtain ⟨k0, k1⟩ := row7 HSa.out 0 _ rfl
        have HS2 := Lib.hid (row_set HSa.out 0 (.int .i64 sc))
        have HQ2 : Hid (ButB w.heap.size wO (v2.setCell ⟨wO.heap.size, 0, none⟩ (.int .i64 sc))) := HQ.out.setNew (Nat.le_refl _) _
        have HX2 : Hid (IsR (v2.setCell ⟨wO.heap.size, 0, none⟩ (.int .i64 sc)) w.heap.size A n c l x2) := hx.but (HH.out.below (HB.out.trans (HQ2.out.below HB.out.size (Nat.le_refl _)))) (by have := HRS.out; rw [hgS] at this; omega) ((ButB.refl wO.heap.size v2).setCell 0 _)
        clear hx hb ha hy HQ HSa  
        go_wp2_with fail
        refine (rr_numX w.heap.size l x2 0 1 1 1 rfl _ A n c HX2.out HLL.out (by decide) (by decide)).mono ?_
        rintro e v3 ⟨rfl, hx, hb⟩
        clear k0 k1
        have ha := num_step HA2.out
        
        obtain ⟨y, hy⟩ : ∃ y, y = numR 1 0 1 l x2 := ⟨_, rfl⟩
        rw [← hy] at hx ha 
        obtain ⟨sv, x3⟩ := y
        simp only at hx ha 
        
        have HA3 := Lib.hid ha
        have HQ := Lib.hid (HQ2.out.trans hb)
        have HSa := Lib.hid ((hb.block wO.heap.size (Array.getElem?_eq_some_iff.1 HS2.out).1 (by have := HRS.out; rw [hgS] at this; omega)).trans HS2.out)
        rw [← congrArg Prod.fst hy]
        simp only
        obtain ⟨k0, k1⟩ := row7 HSa.out 2 _ rfl
        have HS3 := Lib.hid (row_set HSa.out 2 (.int .i64 sv))
        have HQ3 : Hid (ButB w.heap.size wO (v3.setCell ⟨wO.heap.size, 2, none⟩ (.int .i64 sv))) := HQ.out.setNew (Nat.le_refl _) _
        have HX3 : Hid (IsR (v3.setCell ⟨wO.heap.size, 2, none⟩ (.int .i64 sv)) w.heap.size A n c l x3) := hx.but (HH.out.below (HB.out.trans (HQ3.out.below HB.out.size (Nat.le_refl _)))) (by have := HRS.out; rw [hgS] at this; omega) ((ButB.refl wO.heap.size v3).setCell 2 _)
        clear hx hb ha hy HQ HSa  
        go_wp2_with fail
        refine (rr_textX w.heap.size l x3 _ A n c HX3.out HLL.out).mono ?_
        rintro e v4 ⟨rfl, hx, hb⟩
        clear k0 k1
        have ha := txt_step HA3.out
        have hz := txtR_size l x3
        obtain ⟨y, hy⟩ : ∃ y, y = txtR l x3 := ⟨_, rfl⟩
        rw [← hy] at hx ha hz
        obtain ⟨sr, x4⟩ := y
        simp only at hx ha hz
        have HZ4 := Lib.hid hz
        have HA4 := Lib.hid ha
        have HQ := Lib.hid (HQ3.out.trans hb)
        have HSa := Lib.hid ((hb.block wO.heap.size (Array.getElem?_eq_some_iff.1 HS3.out).1 (by have := HRS.out; rw [hgS] at this; omega)).trans HS3.out)
        rw [← congrArg Prod.fst hy]
        simp only
        obtain ⟨k0, k1⟩ := row7 HSa.out 1 _ rfl
        have HS4 := Lib.hid (row_set HSa.out 1 (.string sr))
        have HQ4 : Hid (ButB w.heap.size wO (v4.setCell ⟨wO.heap.size, 1, none⟩ (.string sr))) := HQ.out.setNew (Nat.le_refl _) _
        have HX4 : Hid (IsR (v4.setCell ⟨wO.heap.size, 1, none⟩ (.string sr)) w.heap.size A n c l x4) := hx.but (HH.out.below (HB.out.trans (HQ4.out.below HB.out.size (Nat.le_refl _)))) (by have := HRS.out; rw [hgS] at this; omega) ((ButB.refl wO.heap.size v4).setCell 1 _)
        clear hx hb ha hy HQ HSa hz 
        go_wp2_with fail
        refine (rr_numX w.heap.size l x4 0 64 1 1 rfl _ A n c HX4.out HLL.out (by decide) (by decide)).mono ?_
        rintro e v5 ⟨rfl, hx, hb⟩
        clear k0 k1
        have ha := num_step HA4.out
        obtain ⟨Nf, hNf, hNf64⟩ := numR_nat (k := 1) (lo := 0) (hi := 64) l x4 (by decide) (by decide)
        obtain ⟨x5, hx5⟩ : ∃ y, y = (numR 1 0 64 l x4).2 := ⟨_, rfl⟩
        rw [← hx5, hNf] at ha
        rw [← hx5] at hx
        rw [hNf]
        obtain ⟨KF, hKF⟩ : ∃ K : List Fd → Pr (List Sv), K = stoK (fun v => vntK N (j + 1) ((L.map fun z => z.x) ++ [v])) st sc sv sr := ⟨_, rfl⟩
        have HA5 : Hid (At l (vntP l) x5 (repK fldP KF Nf 0 [])) := by show At _ _ _ _; rw [hKF]; exact ha
        have HKF := Lib.hid hKF
        have HX5 := Lib.hid hx
        have HQ5 := Lib.hid (HQ4.out.trans hb)
        have HS5 := Lib.hid ((hb.block wO.heap.size (Array.getElem?_eq_some_iff.1 HS4.out).1 (by have := HRS.out; rw [hgS] at this; omega)).trans HS4.out)
        rw [← hgS] at HS5
        clear hx hb ha hx5 hNf hKF
        go_wp2_with fail
        go_loopw [10] (fun i wf => ∃ (q : Nat) (F : List Fd) (v : Value) (x : RS), q ≤ Nf ∧ i = .int .i64 (q : Int) ∧ Hid (F.length = q) ∧ Hid (wf.heap[gS]? = some (.cells #[.int .i64 sc, .string sr, .int .i64 sv, v, .string ⟨#[]⟩, .int .i64 st, .slice none 0 0] 28 (0, 0))) ∧ Hid (OwnF wf (gS + 1) 62 v F) ∧ Hid (∀ z ∈ F, z.1.size ≤ maxLen ∧ z.2.size ≤ maxLen) ∧ Hid (IsR wf w.heap.size A n c l x) ∧ Hid (ButB w.heap.size wO wf) ∧ Hid (At l (vntP l) x (repK fldP KF Nf q F))) (fun i _ => Nf - (intOf i).toNat)
        case atStart => exact ⟨0, [], _, x5, Nat.zero_le _, rfl, rfl, HS5.out, OwnF.nil _ _ _, (fun z hz => by cases hz), HX5.out, HQ5.out, HA5.out⟩
        case round =>
          obtain ⟨q, F, v, x, hq, rfl, HFL, HSr, HOF, HZF, HX6, HQ6, HA6⟩ := hrel
          have hq0 : (0 : Int) ≤ (q : Int) := by omega
          have d2 := (r_cells HX6.out.1).2.2.1
          obtain ⟨I, E⟩ := x
          simp only at d2
          by_cases hlq : q < Nf
          · have hq1 : (q : Int) < (Nf : Int) := by omega
            by_cases hE : E = 0
            · subst hE
              have HA7 := Lib.hid (fld_go HA6.out hlq)
              obtain ⟨x6, hx6⟩ : ∃ x, x = ((I, 0) : RS) := ⟨_, rfl⟩
              rw [← hx6] at HX6 HA7
              clear hx6
              obtain ⟨gX, hgX⟩ : ∃ g, g = wr.heap.size := ⟨_, rfl⟩
              have HSX := Lib.hid (show gS < gX by rw [hgX]; exact (Array.getElem?_eq_some_iff.1 HSr.out).1)
              have HXr := Lib.hid (heap_alloc_new wr (.cells #[.string ⟨#[]⟩, .string ⟨#[]⟩] 62))
              have HX7 := Lib.hid (HX6.out.below ((Below.refl _ _).alloc (Nat.le_refl _) (.cells #[.string ⟨#[]⟩, .string ⟨#[]⟩] 62)))
              have HQ7 : Hid (ButB w.heap.size wr (wr.alloc (.cells #[.string ⟨#[]⟩, .string ⟨#[]⟩] 62))) := (ButB.refl _ _).allocNew _
              go_wp2_with fail
              refine (rr_textX w.heap.size l x6 _ A n c HX7.out HLL.out).mono ?_
              rintro e v6 ⟨rfl, hx, hb⟩
              clear d2
              have ha := txt_step HA7.out
              have hz := txtR_size l x6
              obtain ⟨y, hy⟩ : ∃ y, y = txtR l x6 := ⟨_, rfl⟩
              rw [← hy] at hx ha hz
              obtain ⟨fa, y6⟩ := y
              simp only at hx ha hz
              have HZ6 := Lib.hid hz
              have HAx6 := Lib.hid ha
              have HQy := Lib.hid (HQ7.out.trans hb)
              have HXa := Lib.hid ((hb.block wr.heap.size (Array.getElem?_eq_some_iff.1 HXr.out).1 (by have := HSX.out; have := HRS.out; omega)).trans HXr.out)
              rw [← congrArg Prod.fst hy]
              simp only
              obtain ⟨k0, k1⟩ := row_at HXa.out 0 _ rfl
              have HXr6 := Lib.hid (row_set HXa.out 0 (.string fa))
              have HQx6 : Hid (ButB w.heap.size wr (v6.setCell ⟨wr.heap.size, 0, none⟩ (.string fa))) := HQy.out.setNew (Nat.le_refl _) _
              have HXx6 : Hid (IsR (v6.setCell ⟨wr.heap.size, 0, none⟩ (.string fa)) w.heap.size A n c l y6) := hx.but (HH.out.below (HB.out.trans ((HQ6.out.trans HQx6.out).below HB.out.size (Nat.le_refl _)))) (by have := HSX.out; have := HRS.out; omega) ((ButB.refl wr.heap.size v6).setCell 0 _)
              have hsz6 : gS + 1 ≤ v6.heap.size := by have := HSX.out; have := HQy.out.size; omega
              clear hx hb ha hy HQy HXa hz
              go_wp2_with fail
              refine (rr_textX w.heap.size l y6 _ A n c HXx6.out HLL.out).mono ?_
              rintro e v7 ⟨rfl, hx, hb⟩
              clear k0 k1 hsz6
              have ha := txt_step HAx6.out
              have hz := txtR_size l y6
              obtain ⟨y, hy⟩ : ∃ y, y = txtR l y6 := ⟨_, rfl⟩
              rw [← hy] at hx ha hz
              obtain ⟨fv, x7⟩ := y
              simp only at hx ha hz
              have HZ7 := Lib.hid hz
              have HAx7 := Lib.hid ha
              have HQy := Lib.hid (HQx6.out.trans hb)
              have HXa := Lib.hid ((hb.block wr.heap.size (Array.getElem?_eq_some_iff.1 HXr6.out).1 (by have := HSX.out; have := HRS.out; omega)).trans HXr6.out)
              rw [← congrArg Prod.fst hy]
              simp only
              obtain ⟨k0, k1⟩ := row_at HXa.out 1 _ rfl
              have HXr7 := Lib.hid (row_set HXa.out 1 (.string fv))
              have HQx7 : Hid (ButB w.heap.size wr (v7.setCell ⟨wr.heap.size, 1, none⟩ (.string fv))) := HQy.out.setNew (Nat.le_refl _) _
              have HXx7 : Hid (IsR (v7.setCell ⟨wr.heap.size, 1, none⟩ (.string fv)) w.heap.size A n c l x7) := hx.but (HH.out.below (HB.out.trans ((HQ6.out.trans HQx7.out).below HB.out.size (Nat.le_refl _)))) (by have := HSX.out; have := HRS.out; omega) ((ButB.refl wr.heap.size v7).setCell 1 _)
              have hsz7 : gS + 1 ≤ v7.heap.size := by have := HSX.out; have := HQy.out.size; omega
              clear hx hb ha hy HQy HXa hz
              have HSr2 := Lib.hid ((HQx7.out.block gS (by have := HSX.out; omega) (by have := HRS.out; omega)).trans HSr.out)
              obtain ⟨s0, s1⟩ := row_at HSr2.out 3 _ rfl
              rw [hgS] at s0 s1
              obtain ⟨q0, _⟩ := row_at HXr7.out 0 _ rfl
              obtain ⟨q1, _⟩ := row_at HXr7.out 1 _ rfl
              have HOF2 := Lib.hid (own_but HOF.out (by have := HRS.out; omega) HQx7.out)
              have hF64 : F.length ≤ 64 := by have := HFL.out; omega
              have hzz : fa.size ≤ maxLen ∧ fv.size ≤ maxLen := ⟨Nat.le_trans HZ6.out (Nat.le_trans HLL.out (by decide)), Nat.le_trans HZ7.out (Nat.le_trans HLL.out (by decide))⟩
              have HZZ := Lib.hid hzz
              go_wp2_with (at_builtin; refine wpList_append_slf rfl _ _ _ rfl (gS + 1) 62 Tryd.underlying23 (by kernel_rfl) _ rfl F (HOF2.out.alloc _) _ _ _ rfl [(fa, fv)] (SlF.oneAt' _ _ (fa, fv) HZZ.out (by simp)) (by simp; omega) (by simp; omega) _ ((Below.refl (gS + 1) _).alloc (by simp; omega) _) ?_; intro vv w3 ho1 hb1 hz1; obtain ⟨A2, c2, hv2⟩ := own_form ho1.out; rw [List.length_append, List.length_singleton] at hv2; subst hv2; have HSr3 := Lib.hid ((hb1.block gS (by omega)).trans HSr2.out); obtain ⟨t0, t1⟩ := row_at HSr3.out 3 _ rfl; rw [hgS] at t0 t1)
              have HQ9 := Lib.hid (((HQ6.out.trans HQx7.out).thenBelow hb1 (by rw [hgS]; omega)).setNew (p := ⟨gS, 3, none⟩) (by rw [hgS]; exact Nat.le_refl _) (.slice A2 (F.length + 1) c2))
              have HO9 := Lib.hid (own_but ho1.out (by omega) ((ButB.refl gS w3).setCell 3 (.slice A2 (F.length + 1) c2)))
              have HS9 := Lib.hid (row_set HSr3.out 3 (.slice A2 (F.length + 1) c2))
              have HX9 := Lib.hid (HXx7.out.move (HH.out.below (HB.out.trans (HQ9.out.below HB.out.size (Nat.le_refl _)))) ((Below.heap_setCell w3 ⟨gS, 3, none⟩ (.slice A2 (F.length + 1) c2) _ (by have := HRS.out; show w.heap.size ≠ gS; omega)).trans (hb1.block _ (by have := HRS.out; omega))))
              go_roundw
              case rel =>
                rw [← hgS]
                exact ⟨q + 1, F ++ [(fa, fv)], _, x7, by omega, by go_num, by show _ = _; rw [List.length_append, HFL.out]; rfl, HS9.out, HO9.out, (fun z hz => by
                  rcases List.mem_append.1 hz with h | h
                  · exact HZF.out z h
                  · rw [List.mem_singleton] at h; subst h; exact HZZ.out), HX9.out, HQ9.out, HAx7.out⟩
              case measure => simp [intOf]; omega
            · have hE' : (E == 0) = false := by simpa using hE
              have HA8 : Hid (At l (vntP l) (I, E) (KF F)) := HA6.out.any hE
              obtain ⟨xf, hxf⟩ : ∃ x, x = ((I, E) : RS) := ⟨_, rfl⟩
              rw [← hxf] at HX6 HA8
              rw [HKF.out] at HA8
              clear hxf
              obtain ⟨A3, c3, hv3⟩ := own_form HOF.out
              subst hv3
              go_wp2_with fail
              refine (rr_textX w.heap.size l xf _ A n c HX6.out HLL.out).mono ?_
              rintro e v8 ⟨rfl, hx, hb⟩
              clear d2
              have ha := txt_step (f := fun b => (numP 1 0 64).bind fun p => (pckP.rep p.toNat).bind (stoK2 (fun v => vntK N (j + 1) ((L.map fun z => z.x) ++ [v])) ⟨sc, sr, sv, F, b, st⟩)) HA8.out
              have hz := txtR_size l xf
              obtain ⟨y, hy⟩ : ∃ y, y = txtR l xf := ⟨_, rfl⟩
              rw [← hy] at hx ha hz
              obtain ⟨sb, x8⟩ := y
              simp only at hx ha hz
              have HZ8 := Lib.hid hz
              have HAx8 := Lib.hid ha
              have HSa := Lib.hid ((hb.block gS (Array.getElem?_eq_some_iff.1 HSr.out).1 (by have := HRS.out; omega)).trans HSr.out)
              rw [← congrArg Prod.fst hy]
              simp only
              obtain ⟨k0, k1⟩ := row_at HSa.out 4 _ rfl
              have HS8 := Lib.hid (row_set HSa.out 4 (.string sb))
              have HQ8 : Hid (ButB w.heap.size wO (v8.setCell ⟨gS, 4, none⟩ (.string sb))) := (HQ6.out.trans hb).setNew (by rw [hgS]; exact Nat.le_refl _) _
              have HX8 : Hid (IsR (v8.setCell ⟨gS, 4, none⟩ (.string sb)) w.heap.size A n c l x8) := hx.but (HH.out.below (HB.out.trans (HQ8.out.below HB.out.size (Nat.le_refl _)))) (by have := HRS.out; omega) ((ButB.refl gS v8).setCell 4 _)
              have HO8 := Lib.hid (own_but (own_but HOF.out (by have := HRS.out; omega) hb) (Nat.lt_succ_self gS) ((ButB.refl gS v8).setCell 4 (.string sb)))
              rw [hgS] at k0 k1 HX8
              clear hx hb ha hy hz HSa
              go_wp2_with fail
              refine (rr_numX w.heap.size l x8 0 64 1 1 rfl _ A n c HX8.out HLL.out (by decide) (by decide)).mono ?_
              rintro e v9 ⟨rfl, hx, hb⟩
              clear k0 k1
              rw [← hgS] at hb
              have ha := num_step HAx8.out
              obtain ⟨Np, hNp, hNp64⟩ := numR_nat (k := 1) (lo := 0) (hi := 64) l x8 (by decide) (by decide)
              obtain ⟨x9, hx9⟩ : ∃ y, y = (numR 1 0 64 l x8).2 := ⟨_, rfl⟩
              rw [← hx9, hNp] at ha
              rw [← hx9] at hx
              rw [hNp]
              obtain ⟨KP, hKP⟩ : ∃ K : List Pk → Pr (List Sv), K = stoK2 (fun v => vntK N (j + 1) ((L.map fun z => z.x) ++ [v])) ⟨sc, sr, sv, F, sb, st⟩ := ⟨_, rfl⟩
              have HA9 : Hid (At l (vntP l) x9 (repK pckP KP Np 0 [])) := by show At _ _ _ _; rw [hKP]; exact ha
              have HKP := Lib.hid hKP
              have HX9 := Lib.hid hx
              have HQ9 := Lib.hid (HQ8.out.trans hb)
              have HS9 := Lib.hid ((hb.block gS (Array.getElem?_eq_some_iff.1 HS8.out).1 (by have := HRS.out; omega)).trans HS8.out)
              have HO9 := Lib.hid (own_but HO8.out (by have := HRS.out; omega) hb)
              have HSZ9 := Lib.hid (show gS < v9.heap.size from (Array.getElem?_eq_some_iff.1 HS9.out).1)
              have HFB : Hid (∀ ad, A3 = some ad → gS < ad.block ∧ ad.block < v9.heap.size) := fun ad ha => by
                have := World.ownsRow.lt HO9.out ad.block (by rw [ha]; rfl)
                omega
              clear hx hb ha hx9 hNp hKP
              go_wp2_with fail
              go_loopw [13] (fun i wf => ∃ (q : Nat) (P : List Pk) (v : Value) (x : RS), q ≤ Np ∧ i = .int .i64 (q : Int) ∧ Hid (P.length = q) ∧ Hid (wf.heap[gS]? = some (.cells #[.int .i64 sc, .string sr, .int .i64 sv, .slice A3 F.length c3, .string sb, .int .i64 st, v] 28 (0, 0))) ∧ Hid (OwnK wf v9.heap.size 53 v P) ∧ Hid (∀ z ∈ P, z.n.size ≤ maxLen ∧ z.v.size ≤ maxLen) ∧ Hid (∀ ad, A3 = some ad → wf.heap[ad.block]? = v9.heap[ad.block]?) ∧ Hid (v9.heap.size ≤ wf.heap.size) ∧ Hid (IsR wf w.heap.size A n c l x) ∧ Hid (ButB w.heap.size wO wf) ∧ Hid (At l (vntP l) x (repK pckP KP Np q P))) (fun i _ => Np - (intOf i).toNat)
              case atStart => exact ⟨0, [], _, x9, Nat.zero_le _, rfl, rfl, HS9.out, OwnK.nil _ _ _, (fun z hz => by cases hz), (fun _ _ => rfl), Nat.le_refl _, HX9.out, HQ9.out, HA9.out⟩
              case round =>
                obtain ⟨q, P, v, x, hq, rfl, HPL, HSr, HOK, HZP, HFK, HSZ10, HX10, HQ10, HA10⟩ := hrel
                have hq0 : (0 : Int) ≤ (q : Int) := by omega
                have d2 := (r_cells HX10.out.1).2.2.1
                obtain ⟨I, E⟩ := x
                simp only at d2
                by_cases hlq : q < Np
                · have hq1 : (q : Int) < (Np : Int) := by omega
                  by_cases hE : E = 0
                  · subst hE
                    have HA11 := Lib.hid (pck_go HA10.out hlq)
                    obtain ⟨x10, hx10⟩ : ∃ x, x = ((I, 0) : RS) := ⟨_, rfl⟩
                    rw [← hx10] at HX10 HA11
                    clear hx10
                    have HSX := Lib.hid (show gS < wr.heap.size from (Array.getElem?_eq_some_iff.1 HSr.out).1)
                    have HXr := Lib.hid (heap_alloc_new wr (.cells #[.string ⟨#[]⟩, .bool false, .string ⟨#[]⟩] 53))
                    have HX11 := Lib.hid (HX10.out.below ((Below.refl _ _).alloc (Nat.le_refl _) (.cells #[.string ⟨#[]⟩, .bool false, .string ⟨#[]⟩] 53)))
                    have HQ11 : Hid (ButB w.heap.size wr (wr.alloc (.cells #[.string ⟨#[]⟩, .bool false, .string ⟨#[]⟩] 53))) := (ButB.refl _ _).allocNew _
                    go_wp2_with fail
                    refine (rr_textX w.heap.size l x10 _ A n c HX11.out HLL.out).mono ?_
                    rintro e u1 ⟨rfl, hx, hb⟩
                    clear d2
                    have ha := txt_step HA11.out
                    have hz := txtR_size l x10
                    obtain ⟨y, hy⟩ : ∃ y, y = txtR l x10 := ⟨_, rfl⟩
                    rw [← hy] at hx ha hz
                    obtain ⟨pn, z1⟩ := y
                    simp only at hx ha hz
                    have HZp1 := Lib.hid hz
                    have HAp1 := Lib.hid ha
                    have HQy := Lib.hid (HQ11.out.trans hb)
                    have HXa := Lib.hid ((hb.block wr.heap.size (Array.getElem?_eq_some_iff.1 HXr.out).1 (by have := HSX.out; have := HRS.out; omega)).trans HXr.out)
                    rw [← congrArg Prod.fst hy]
                    simp only
                    obtain ⟨k0, k1⟩ := row_at HXa.out 0 _ rfl
                    have HXr1 := Lib.hid (row_set HXa.out 0 (.string pn))
                    have HQp1 : Hid (ButB w.heap.size wr (u1.setCell ⟨wr.heap.size, 0, none⟩ (.string pn))) := HQy.out.setNew (Nat.le_refl _) _
                    have HXp1 : Hid (IsR (u1.setCell ⟨wr.heap.size, 0, none⟩ (.string pn)) w.heap.size A n c l z1) := hx.but (HH.out.below (HB.out.trans ((HQ10.out.trans HQp1.out).below HB.out.size (Nat.le_refl _)))) (by have := HSX.out; have := HRS.out; omega) ((ButB.refl wr.heap.size u1).setCell 0 _)
                    have hszp : v9.heap.size ≤ u1.heap.size := by have := HSZ10.out; have := HQy.out.size; omega
                    clear hx hb ha hy HQy HXa hz
                    go_wp2_with fail
                    refine (rr_numX w.heap.size l z1 0 1 1 1 rfl _ A n c HXp1.out HLL.out (by decide) (by decide)).mono ?_
                    rintro e u2 ⟨rfl, hx, hb⟩
                    clear k0 k1 hszp
                    have ha := num_step HAp1.out
                    
                    obtain ⟨y, hy⟩ : ∃ y, y = numR 1 0 1 l z1 := ⟨_, rfl⟩
                    rw [← hy] at hx ha 
                    obtain ⟨ph, z2⟩ := y
                    simp only at hx ha 
                    
                    have HAp2 := Lib.hid ha
                    have HQy := Lib.hid (HQp1.out.trans hb)
                    have HXa := Lib.hid ((hb.block wr.heap.size (Array.getElem?_eq_some_iff.1 HXr1.out).1 (by have := HSX.out; have := HRS.out; omega)).trans HXr1.out)
                    rw [← congrArg Prod.fst hy]
                    simp only
                    obtain ⟨k0, k1⟩ := row_at HXa.out 1 _ rfl
                    have HXr2 := Lib.hid (row_set HXa.out 1 (.bool (ph == 1)))
                    have HQp2 : Hid (ButB w.heap.size wr (u2.setCell ⟨wr.heap.size, 1, none⟩ (.bool (ph == 1)))) := HQy.out.setNew (Nat.le_refl _) _
                    have HXp2 : Hid (IsR (u2.setCell ⟨wr.heap.size, 1, none⟩ (.bool (ph == 1))) w.heap.size A n c l z2) := hx.but (HH.out.below (HB.out.trans ((HQ10.out.trans HQp2.out).below HB.out.size (Nat.le_refl _)))) (by have := HSX.out; have := HRS.out; omega) ((ButB.refl wr.heap.size u2).setCell 1 _)
                    have hszp : v9.heap.size ≤ u2.heap.size := by have := HSZ10.out; have := HQy.out.size; omega
                    clear hx hb ha hy HQy HXa 
                    go_wp2_with fail
                    refine (rr_textX w.heap.size l z2 _ A n c HXp2.out HLL.out).mono ?_
                    rintro e u3 ⟨rfl, hx, hb⟩
                    clear k0 k1 hszp
                    have ha := txt_step HAp2.out
                    have hz := txtR_size l z2
                    obtain ⟨y, hy⟩ : ∃ y, y = txtR l z2 := ⟨_, rfl⟩
                    rw [← hy] at hx ha hz
                    obtain ⟨pv, z3⟩ := y
                    simp only at hx ha hz
                    have HZp3 := Lib.hid hz
                    have HAp3 := Lib.hid ha
                    have HQy := Lib.hid (HQp2.out.trans hb)
                    have HXa := Lib.hid ((hb.block wr.heap.size (Array.getElem?_eq_some_iff.1 HXr2.out).1 (by have := HSX.out; have := HRS.out; omega)).trans HXr2.out)
                    rw [← congrArg Prod.fst hy]
                    simp only
                    obtain ⟨k0, k1⟩ := row_at HXa.out 2 _ rfl
                    have HXr3 := Lib.hid (row_set HXa.out 2 (.string pv))
                    have HQp3 : Hid (ButB w.heap.size wr (u3.setCell ⟨wr.heap.size, 2, none⟩ (.string pv))) := HQy.out.setNew (Nat.le_refl _) _
                    have HXp3 : Hid (IsR (u3.setCell ⟨wr.heap.size, 2, none⟩ (.string pv)) w.heap.size A n c l z3) := hx.but (HH.out.below (HB.out.trans ((HQ10.out.trans HQp3.out).below HB.out.size (Nat.le_refl _)))) (by have := HSX.out; have := HRS.out; omega) ((ButB.refl wr.heap.size u3).setCell 2 _)
                    have hszp : v9.heap.size ≤ u3.heap.size := by have := HSZ10.out; have := HQy.out.size; omega
                    clear hx hb ha hy HQy HXa hz
                    have HSr2 := Lib.hid ((HQp3.out.block gS HSX.out (by have := HRS.out; omega)).trans HSr.out)
                    obtain ⟨s0, s1⟩ := row_at HSr2.out 6 _ rfl
                    rw [hgS] at s0 s1
                    obtain ⟨q0, _⟩ := row_at HXr3.out 0 _ rfl
                    obtain ⟨q1, _⟩ := row_at HXr3.out 1 _ rfl
                    obtain ⟨q2, _⟩ := row_at HXr3.out 2 _ rfl
                    have HOK2 := Lib.hid (own_but HOK.out (by have := HRS.out; have := HSZ9.out; omega) HQp3.out)
                    have hP64 : P.length ≤ 64 := by have := HPL.out; omega
                    have HZZ : Hid (pn.size ≤ maxLen ∧ pv.size ≤ maxLen) := ⟨Nat.le_trans HZp1.out (Nat.le_trans HLL.out (by decide)), Nat.le_trans HZp3.out (Nat.le_trans HLL.out (by decide))⟩
                    go_wp2_with (at_builtin; refine wpList_append_slk rfl _ _ _ rfl v9.heap.size 53 Tryd.underlying26 (by kernel_rfl) _ rfl P (HOK2.out.alloc _) _ _ _ rfl [(⟨pn, ph == 1, pv⟩ : Pk)] (SlK.oneAt _ _ (⟨pn, ph == 1, pv⟩ : Pk) HZZ.out (by simp)) (by simp; omega) (by simp; omega) _ ((Below.refl v9.heap.size _).alloc (by simp; omega) _) ?_; intro vv w3 ho1 hb1 hz1; obtain ⟨A4, c4, hv4⟩ := own_form ho1.out; rw [List.length_append, List.length_singleton] at hv4; subst hv4; have HSr3 := Lib.hid ((hb1.block gS HSZ9.out).trans HSr2.out); obtain ⟨t0, t1⟩ := row_at HSr3.out 6 _ rfl; rw [hgS] at t0 t1)
                    have HQ12 := Lib.hid (((HQ10.out.trans HQp3.out).thenBelow hb1 (by have := HSZ9.out; rw [← hgS]; omega)).setNew (p := ⟨gS, 6, none⟩) (by rw [hgS]; exact Nat.le_refl _) (.slice A4 (P.length + 1) c4))
                    have HO12 := Lib.hid (own_but ho1.out HSZ9.out ((ButB.refl gS w3).setCell 6 (.slice A4 (P.length + 1) c4)))
                    have HS12 := Lib.hid (row_set HSr3.out 6 (.slice A4 (P.length + 1) c4))
                    have HX12 := Lib.hid (HXp3.out.move (HH.out.below (HB.out.trans (HQ12.out.below HB.out.size (Nat.le_refl _)))) ((Below.heap_setCell w3 ⟨gS, 6, none⟩ (.slice A4 (P.length + 1) c4) _ (by have := HRS.out; show w.heap.size ≠ gS; omega)).trans (hb1.block _ (by have := HRS.out; have := HSZ9.out; omega))))
                    have HFK12 : Hid (∀ ad, A3 = some ad → (w3.setCell ⟨gS, 6, none⟩ (.slice A4 (P.length + 1) c4)).heap[ad.block]? = v9.heap[ad.block]?) := fun ad ha => by
                      have h1 := HFB.out ad ha
                      have := HSZ10.out
                      have := HRS.out
                      exact (Below.heap_setCell w3 ⟨gS, 6, none⟩ _ _ (by show ad.block ≠ gS; omega)).trans ((hb1.block _ h1.2).trans ((HQp3.out.block _ (by omega) (by omega)).trans (HFK.out ad ha)))
                    have HSZ12 : Hid (v9.heap.size ≤ (w3.setCell ⟨gS, 6, none⟩ (.slice A4 (P.length + 1) c4)).heap.size) := by
                      show _ ≤ _
                      have h1 : w3.heap.size ≤ (w3.setCell ⟨gS, 6, none⟩ (.slice A4 (P.length + 1) c4)).heap.size := ((ButB.refl gS w3).setCell 6 (.slice A4 (P.length + 1) c4)).size
                      have h2 := hb1.size
                      have h3 := HQp3.out.size
                      have h4 := HSZ10.out
                      omega
                    go_roundw
                    case rel =>
                      rw [← hgS]
                      exact ⟨q + 1, P ++ [(⟨pn, ph == 1, pv⟩ : Pk)], _, z3, by omega, by go_num, by show _ = _; rw [List.length_append, HPL.out]; rfl, HS12.out, HO12.out, (fun z hz => by
                        rcases List.mem_append.1 hz with h | h
                        · exact HZP.out z h
                        · rw [List.mem_singleton] at h; subst h; exact HZZ.out), HFK12.out, HSZ12.out, HX12.out, HQ12.out, HAp3.out⟩
                    case measure => simp [intOf]; omega
                  · have hE' : (E == 0) = false := by simpa using hE
                    have HA13 : Hid (At l (vntP l) (I, E) (KP P)) := HA10.out.any hE
                    rw [HKP.out] at HA13
                    obtain ⟨A5, c5, hv5⟩ := own_form HOK.out
                    subst hv5
                    obtain ⟨y, hy⟩ : ∃ y : Sd, y = ⟨⟨⟨sc, sr, sv, F, sb, st⟩, P⟩, A3, c3, A5, c5⟩ := ⟨_, rfl⟩
                    have HYA := Lib.hid (show sdA y = #[.int .i64 sc, .string sr, .int .i64 sv, .slice A3 F.length c3, .string sb, .int .i64 st, .slice A5 P.length c5] by rw [hy]; rfl)
                    have HYX := Lib.hid (show y.x = ⟨⟨sc, sr, sv, F, sb, st⟩, P⟩ by rw [hy])
                    have HYT := Lib.hid (show SdTy wr y from by
                      rw [hy]
                      exact ⟨⟨(slf_own HO9.out HZF.out).blocks HFK.out, slk_own HOK.out HZP.out⟩, (TyA.of_own HO9.out).keep HFK.out, TyA.of_own HOK.out⟩)
                    have HYZ := Lib.hid (show y.x.s.r.size ≤ maxLen ∧ y.x.s.b.size ≤ maxLen from by
                      rw [hy]
                      exact ⟨Nat.le_trans HZ4.out (Nat.le_trans HLL.out (by decide)), Nat.le_trans HZ8.out (Nat.le_trans HLL.out (by decide))⟩)
                    clear hy
                    have HOd : Hid (OwnD wr (w.heap.size + 1) 28 v0 L) := own_but HO.out (Nat.lt_succ_self _) HQ10.out
                    obtain ⟨s0, _⟩ := row_at HSr.out 0 _ rfl
                    obtain ⟨s1, _⟩ := row_at HSr.out 1 _ rfl
                    obtain ⟨s2, _⟩ := row_at HSr.out 2 _ rfl
                    obtain ⟨s3, _⟩ := row_at HSr.out 3 _ rfl
                    obtain ⟨s4, _⟩ := row_at HSr.out 4 _ rfl
                    obtain ⟨s5, _⟩ := row_at HSr.out 5 _ rfl
                    obtain ⟨s6, _⟩ := row_at HSr.out 6 _ rfl
                    rw [hgS] at s0 s1 s2 s3 s4 s5 s6
                    have hL4 : L.length ≤ 4 := by have := HLE.out; omega
                    have hRw : w.heap.size + 1 ≤ wr.heap.size := HX10.out.lt
                    go_wp2_with (at_builtin; rw [← HYA.out]; refine wpList_append_sldG rfl _ _ _ rfl (w.heap.size + 1) 28 Tryd.underlying22 (by kernel_rfl) _ rfl L (OwnD.alloc HOd.out _) _ _ _ rfl [y] rfl (fun j u hu => cell_of_own (OwnD.one wr 28 y (Nat.le_refl _)) j u hu) (by simp; omega) (by simp; omega) ?_; intro vv w4 ho1 hg1)
                    have HT : ∀ z, SdTy wr z → SdTy w4 z := fun z hz => (hz.but HX10.out.1 rfl rfl ((ButB.refl w.heap.size wr).allocNew _)).grown (OwnD.alloc HOd.out _) rfl rfl hg1.out
                    have HBn : Hid (Below w.heap.size w w4) := Below.grown (HB.out.trans ((HQ10.out.allocNew _).below HB.out.size (Nat.le_refl _))) hg1.out (Nat.le_trans (Nat.le_of_lt HX10.out.lt) (ButB.allocNew (ButB.refl w.heap.size wr) _).size) (fun k hk => Nat.le_of_succ_le (World.ownsRow.lt (OwnD.alloc HOd.out (.cells (sdA y) 28)) k hk).1)
                    have HXn : Hid (IsR w4 w.heap.size A n c l (I, E)) := HX10.out.move (HH.out.below HBn.out) ((hg1.out.block _ (Nat.lt_of_lt_of_le HX10.out.lt (ButB.allocNew (ButB.refl w.heap.size wr) _).size) (fun q => absurd (World.ownsRow.lt (OwnD.alloc HOd.out (.cells (sdA y) 28)) _ q.symm).1 (Nat.not_succ_le_self _))).trans (((ButB.of_below ((Below.refl wr.heap.size wr).alloc (Nat.le_refl _) _) : ButB wr.heap.size wr _).block _ HX10.out.lt (Nat.ne_of_lt HX10.out.lt))))
                    have HAn : Hid (At l (vntP l) (I, E) (vntK N (j + 1) ((L ++ [y]).map fun z => z.x))) := HA13.out.to (by rw [List.map_append, List.map_cons, List.map_nil, HYX.out]; rfl)
                    have HAL : Hid (∀ z ∈ L ++ [y], SdTy w4 z ∧ z.x.s.r.size ≤ maxLen ∧ z.x.s.b.size ≤ maxLen) := fun z hz => by
                      rcases List.mem_append.1 hz with h | h
                      · exact ⟨HT z ((HALL.out z h).1.but HX.out.1 rfl rfl HQ10.out), (HALL.out z h).2⟩
                      · rw [List.mem_singleton] at h; subst h; exact ⟨HT z HYT.out, HYZ.out⟩
                    refine ⟨⟨j + 1, L ++ [y], (I, E), by omega, by go_num, ?_, ho1.out, HAL.out, HXn.out, HBn.out, HAn.out⟩, ?_⟩
                    · show _ = _; rw [List.length_append, HLE.out]; rfl
                    · simp [intOf]; omega
                · have hq1 : ¬ (q : Int) < (Np : Int) := by omega
                  have HA13 : Hid (At l (vntP l) (I, E) (KP P)) := HA10.out.to (repK_end pckP KP P (by omega))
                  rw [HKP.out] at HA13
                  obtain ⟨A5, c5, hv5⟩ := own_form HOK.out
                  subst hv5
                  obtain ⟨y, hy⟩ : ∃ y : Sd, y = ⟨⟨⟨sc, sr, sv, F, sb, st⟩, P⟩, A3, c3, A5, c5⟩ := ⟨_, rfl⟩
                  have HYA := Lib.hid (show sdA y = #[.int .i64 sc, .string sr, .int .i64 sv, .slice A3 F.length c3, .string sb, .int .i64 st, .slice A5 P.length c5] by rw [hy]; rfl)
                  have HYX := Lib.hid (show y.x = ⟨⟨sc, sr, sv, F, sb, st⟩, P⟩ by rw [hy])
                  have HYT := Lib.hid (show SdTy wr y from by
                    rw [hy]
                    exact ⟨⟨(slf_own HO9.out HZF.out).blocks HFK.out, slk_own HOK.out HZP.out⟩, (TyA.of_own HO9.out).keep HFK.out, TyA.of_own HOK.out⟩)
                  have HYZ := Lib.hid (show y.x.s.r.size ≤ maxLen ∧ y.x.s.b.size ≤ maxLen from by
                    rw [hy]
                    exact ⟨Nat.le_trans HZ4.out (Nat.le_trans HLL.out (by decide)), Nat.le_trans HZ8.out (Nat.le_trans HLL.out (by decide))⟩)
                  clear hy
                  have HOd : Hid (OwnD wr (w.heap.size + 1) 28 v0 L) := own_but HO.out (Nat.lt_succ_self _) HQ10.out
                  obtain ⟨s0, _⟩ := row_at HSr.out 0 _ rfl
                  obtain ⟨s1, _⟩ := row_at HSr.out 1 _ rfl
                  obtain ⟨s2, _⟩ := row_at HSr.out 2 _ rfl
                  obtain ⟨s3, _⟩ := row_at HSr.out 3 _ rfl
                  obtain ⟨s4, _⟩ := row_at HSr.out 4 _ rfl
                  obtain ⟨s5, _⟩ := row_at HSr.out 5 _ rfl
                  obtain ⟨s6, _⟩ := row_at HSr.out 6 _ rfl
                  rw [hgS] at s0 s1 s2 s3 s4 s5 s6
                  have hL4 : L.length ≤ 4 := by have := HLE.out; omega
                  have hRw : w.heap.size + 1 ≤ wr.heap.size := HX10.out.lt
                  go_wp2_with (at_builtin; rw [← HYA.out]; refine wpList_append_sldG rfl _ _ _ rfl (w.heap.size + 1) 28 Tryd.underlying22 (by kernel_rfl) _ rfl L (OwnD.alloc HOd.out _) _ _ _ rfl [y] rfl (fun j u hu => cell_of_own (OwnD.one wr 28 y (Nat.le_refl _)) j u hu) (by simp; omega) (by simp; omega) ?_; intro vv w4 ho1 hg1)
                  have HT : ∀ z, SdTy wr z → SdTy w4 z := fun z hz => (hz.but HX10.out.1 rfl rfl ((ButB.refl w.heap.size wr).allocNew _)).grown (OwnD.alloc HOd.out _) rfl rfl hg1.out
                  have HBn : Hid (Below w.heap.size w w4) := Below.grown (HB.out.trans ((HQ10.out.allocNew _).below HB.out.size (Nat.le_refl _))) hg1.out (Nat.le_trans (Nat.le_of_lt HX10.out.lt) (ButB.allocNew (ButB.refl w.heap.size wr) _).size) (fun k hk => Nat.le_of_succ_le (World.ownsRow.lt (OwnD.alloc HOd.out (.cells (sdA y) 28)) k hk).1)
                  have HXn : Hid (IsR w4 w.heap.size A n c l (I, E)) := HX10.out.move (HH.out.below HBn.out) ((hg1.out.block _ (Nat.lt_of_lt_of_le HX10.out.lt (ButB.allocNew (ButB.refl w.heap.size wr) _).size) (fun q => absurd (World.ownsRow.lt (OwnD.alloc HOd.out (.cells (sdA y) 28)) _ q.symm).1 (Nat.not_succ_le_self _))).trans (((ButB.of_below ((Below.refl wr.heap.size wr).alloc (Nat.le_refl _) _) : ButB wr.heap.size wr _).block _ HX10.out.lt (Nat.ne_of_lt HX10.out.lt))))
                  have HAn : Hid (At l (vntP l) (I, E) (vntK N (j + 1) ((L ++ [y]).map fun z => z.x))) := HA13.out.to (by rw [List.map_append, List.map_cons, List.map_nil, HYX.out]; rfl)
                  have HAL : Hid (∀ z ∈ L ++ [y], SdTy w4 z ∧ z.x.s.r.size ≤ maxLen ∧ z.x.s.b.size ≤ maxLen) := fun z hz => by
                    rcases List.mem_append.1 hz with h | h
                    · exact ⟨HT z ((HALL.out z h).1.but HX.out.1 rfl rfl HQ10.out), (HALL.out z h).2⟩
                    · rw [List.mem_singleton] at h; subst h; exact ⟨HT z HYT.out, HYZ.out⟩
                  refine ⟨⟨j + 1, L ++ [y], (I, E), by omega, by go_num, ?_, ho1.out, HAL.out, HXn.out, HBn.out, HAn.out⟩, ?_⟩
                  · show _ = _; rw [List.length_append, HLE.out]; rfl
                  · simp [intOf]; omega
          · have hq1 : ¬ (q : Int) < (Nf : Int) := by omega
            have HA8 : Hid (At l (vntP l) (I, E) (KF F)) := HA6.out.to (repK_end fldP KF F (by omega))
            obtain ⟨xf, hxf⟩ : ∃ x, x = ((I, E) : RS) := ⟨_, rfl⟩
            rw [← hxf] at HX6 HA8
            rw [HKF.out] at HA8
            clear hxf
            obtain ⟨A3, c3, hv3⟩ := own_form HOF.out
            subst hv3
            go_wp2_with fail
            refine (rr_textX w.heap.size l xf _ A n c HX6.out HLL.out).mono ?_
            rintro e v8 ⟨rfl, hx, hb⟩
            clear d2
            have ha := txt_step (f := fun b => (numP 1 0 64).bind fun p => (pckP.rep p.toNat).bind (stoK2 (fun v => vntK N (j + 1) ((L.map fun z => z.x) ++ [v])) ⟨sc, sr, sv, F, b, st⟩)) HA8.out
            have hz := txtR_size l xf
            obtain ⟨y, hy⟩ : ∃ y, y = txtR l xf := ⟨_, rfl⟩
            rw [← hy] at hx ha hz
            obtain ⟨sb, x8⟩ := y
            simp only at hx ha hz
            have HZ8 := Lib.hid hz
            have HAx8 := Lib.hid ha
            have HSa := Lib.hid ((hb.block gS (Array.getElem?_eq_some_iff.1 HSr.out).1 (by have := HRS.out; omega)).trans HSr.out)
            rw [← congrArg Prod.fst hy]
            simp only
            obtain ⟨k0, k1⟩ := row_at HSa.out 4 _ rfl
            have HS8 := Lib.hid (row_set HSa.out 4 (.string sb))
            have HQ8 : Hid (ButB w.heap.size wO (v8.setCell ⟨gS, 4, none⟩ (.string sb))) := (HQ6.out.trans hb).setNew (by rw [hgS]; exact Nat.le_refl _) _
            have HX8 : Hid (IsR (v8.setCell ⟨gS, 4, none⟩ (.string sb)) w.heap.size A n c l x8) := hx.but (HH.out.below (HB.out.trans (HQ8.out.below HB.out.size (Nat.le_refl _)))) (by have := HRS.out; omega) ((ButB.refl gS v8).setCell 4 _)
            have HO8 := Lib.hid (own_but (own_but HOF.out (by have := HRS.out; omega) hb) (Nat.lt_succ_self gS) ((ButB.refl gS v8).setCell 4 (.string sb)))
            rw [hgS] at k0 k1 HX8
            clear hx hb ha hy hz HSa
            go_wp2_with fail
            refine (rr_numX w.heap.size l x8 0 64 1 1 rfl _ A n c HX8.out HLL.out (by decide) (by decide)).mono ?_
            rintro e v9 ⟨rfl, hx, hb⟩
            clear k0 k1
            rw [← hgS] at hb
            have ha := num_step HAx8.out
            obtain ⟨Np, hNp, hNp64⟩ := numR_nat (k := 1) (lo := 0) (hi := 64) l x8 (by decide) (by decide)
            obtain ⟨x9, hx9⟩ : ∃ y, y = (numR 1 0 64 l x8).2 := ⟨_, rfl⟩
            rw [← hx9, hNp] at ha
            rw [← hx9] at hx
            rw [hNp]
            obtain ⟨KP, hKP⟩ : ∃ K : List Pk → Pr (List Sv), K = stoK2 (fun v => vntK N (j + 1) ((L.map fun z => z.x) ++ [v])) ⟨sc, sr, sv, F, sb, st⟩ := ⟨_, rfl⟩
            have HA9 : Hid (At l (vntP l) x9 (repK pckP KP Np 0 [])) := by show At _ _ _ _; rw [hKP]; exact ha
            have HKP := Lib.hid hKP
            have HX9 := Lib.hid hx
            have HQ9 := Lib.hid (HQ8.out.trans hb)
            have HS9 := Lib.hid ((hb.block gS (Array.getElem?_eq_some_iff.1 HS8.out).1 (by have := HRS.out; omega)).trans HS8.out)
            have HO9 := Lib.hid (own_but HO8.out (by have := HRS.out; omega) hb)
            have HSZ9 := Lib.hid (show gS < v9.heap.size from (Array.getElem?_eq_some_iff.1 HS9.out).1)
            have HFB : Hid (∀ ad, A3 = some ad → gS < ad.block ∧ ad.block < v9.heap.size) := fun ad ha => by
              have := World.ownsRow.lt HO9.out ad.block (by rw [ha]; rfl)
              omega
            clear hx hb ha hx9 hNp hKP
            go_wp2_with fail
            go_loopw [13] (fun i wf => ∃ (q : Nat) (P : List Pk) (v : Value) (x : RS), q ≤ Np ∧ i = .int .i64 (q : Int) ∧ Hid (P.length = q) ∧ Hid (wf.heap[gS]? = some (.cells #[.int .i64 sc, .string sr, .int .i64 sv, .slice A3 F.length c3, .string sb, .int .i64 st, v] 28 (0, 0))) ∧ Hid (OwnK wf v9.heap.size 53 v P) ∧ Hid (∀ z ∈ P, z.n.size ≤ maxLen ∧ z.v.size ≤ maxLen) ∧ Hid (∀ ad, A3 = some ad → wf.heap[ad.block]? = v9.heap[ad.block]?) ∧ Hid (v9.heap.size ≤ wf.heap.size) ∧ Hid (IsR wf w.heap.size A n c l x) ∧ Hid (ButB w.heap.size wO wf) ∧ Hid (At l (vntP l) x (repK pckP KP Np q P))) (fun i _ => Np - (intOf i).toNat)
            case atStart => exact ⟨0, [], _, x9, Nat.zero_le _, rfl, rfl, HS9.out, OwnK.nil _ _ _, (fun z hz => by cases hz), (fun _ _ => rfl), Nat.le_refl _, HX9.out, HQ9.out, HA9.out⟩
            case round =>
              obtain ⟨q, P, v, x, hq, rfl, HPL, HSr, HOK, HZP, HFK, HSZ10, HX10, HQ10, HA10⟩ := hrel
              have hq0 : (0 : Int) ≤ (q : Int) := by omega
              have d2 := (r_cells HX10.out.1).2.2.1
              obtain ⟨I, E⟩ := x
              simp only at d2
              by_cases hlq : q < Np
              · have hq1 : (q : Int) < (Np : Int) := by omega
                by_cases hE : E = 0
                · subst hE
                  have HA11 := Lib.hid (pck_go HA10.out hlq)
                  obtain ⟨x10, hx10⟩ : ∃ x, x = ((I, 0) : RS) := ⟨_, rfl⟩
                  rw [← hx10] at HX10 HA11
                  clear hx10
                  have HSX := Lib.hid (show gS < wr.heap.size from (Array.getElem?_eq_some_iff.1 HSr.out).1)
                  have HXr := Lib.hid (heap_alloc_new wr (.cells #[.string ⟨#[]⟩, .bool false, .string ⟨#[]⟩] 53))
                  have HX11 := Lib.hid (HX10.out.below ((Below.refl _ _).alloc (Nat.le_refl _) (.cells #[.string ⟨#[]⟩, .bool false, .string ⟨#[]⟩] 53)))
                  have HQ11 : Hid (ButB w.heap.size wr (wr.alloc (.cells #[.string ⟨#[]⟩, .bool false, .string ⟨#[]⟩] 53))) := (ButB.refl _ _).allocNew _
                  go_wp2_with fail
                  refine (rr_textX w.heap.size l x10 _ A n c HX11.out HLL.out).mono ?_
                  rintro e u1 ⟨rfl, hx, hb⟩
                  clear d2
                  have ha := txt_step HA11.out
                  have hz := txtR_size l x10
                  obtain ⟨y, hy⟩ : ∃ y, y = txtR l x10 := ⟨_, rfl⟩
                  rw [← hy] at hx ha hz
                  obtain ⟨pn, z1⟩ := y
                  simp only at hx ha hz
                  have HZp1 := Lib.hid hz
                  have HAp1 := Lib.hid ha
                  have HQy := Lib.hid (HQ11.out.trans hb)
                  have HXa := Lib.hid ((hb.block wr.heap.size (Array.getElem?_eq_some_iff.1 HXr.out).1 (by have := HSX.out; have := HRS.out; omega)).trans HXr.out)
                  rw [← congrArg Prod.fst hy]
                  simp only
                  obtain ⟨k0, k1⟩ := row_at HXa.out 0 _ rfl
                  have HXr1 := Lib.hid (row_set HXa.out 0 (.string pn))
                  have HQp1 : Hid (ButB w.heap.size wr (u1.setCell ⟨wr.heap.size, 0, none⟩ (.string pn))) := HQy.out.setNew (Nat.le_refl _) _
                  have HXp1 : Hid (IsR (u1.setCell ⟨wr.heap.size, 0, none⟩ (.string pn)) w.heap.size A n c l z1) := hx.but (HH.out.below (HB.out.trans ((HQ10.out.trans HQp1.out).below HB.out.size (Nat.le_refl _)))) (by have := HSX.out; have := HRS.out; omega) ((ButB.refl wr.heap.size u1).setCell 0 _)
                  have hszp : v9.heap.size ≤ u1.heap.size := by have := HSZ10.out; have := HQy.out.size; omega
                  clear hx hb ha hy HQy HXa hz
                  go_wp2_with fail
                  refine (rr_numX w.heap.size l z1 0 1 1 1 rfl _ A n c HXp1.out HLL.out (by decide) (by decide)).mono ?_
                  rintro e u2 ⟨rfl, hx, hb⟩
                  clear k0 k1 hszp
                  have ha := num_step HAp1.out
                  
                  obtain ⟨y, hy⟩ : ∃ y, y = numR 1 0 1 l z1 := ⟨_, rfl⟩
                  rw [← hy] at hx ha 
                  obtain ⟨ph, z2⟩ := y
                  simp only at hx ha 
                  
                  have HAp2 := Lib.hid ha
                  have HQy := Lib.hid (HQp1.out.trans hb)
                  have HXa := Lib.hid ((hb.block wr.heap.size (Array.getElem?_eq_some_iff.1 HXr1.out).1 (by have := HSX.out; have := HRS.out; omega)).trans HXr1.out)
                  rw [← congrArg Prod.fst hy]
                  simp only
                  obtain ⟨k0, k1⟩ := row_at HXa.out 1 _ rfl
                  have HXr2 := Lib.hid (row_set HXa.out 1 (.bool (ph == 1)))
                  have HQp2 : Hid (ButB w.heap.size wr (u2.setCell ⟨wr.heap.size, 1, none⟩ (.bool (ph == 1)))) := HQy.out.setNew (Nat.le_refl _) _
                  have HXp2 : Hid (IsR (u2.setCell ⟨wr.heap.size, 1, none⟩ (.bool (ph == 1))) w.heap.size A n c l z2) := hx.but (HH.out.below (HB.out.trans ((HQ10.out.trans HQp2.out).below HB.out.size (Nat.le_refl _)))) (by have := HSX.out; have := HRS.out; omega) ((ButB.refl wr.heap.size u2).setCell 1 _)
                  have hszp : v9.heap.size ≤ u2.heap.size := by have := HSZ10.out; have := HQy.out.size; omega
                  clear hx hb ha hy HQy HXa 
                  go_wp2_with fail
                  refine (rr_textX w.heap.size l z2 _ A n c HXp2.out HLL.out).mono ?_
                  rintro e u3 ⟨rfl, hx, hb⟩
                  clear k0 k1 hszp
                  have ha := txt_step HAp2.out
                  have hz := txtR_size l z2
                  obtain ⟨y, hy⟩ : ∃ y, y = txtR l z2 := ⟨_, rfl⟩
                  rw [← hy] at hx ha hz
                  obtain ⟨pv, z3⟩ := y
                  simp only at hx ha hz
                  have HZp3 := Lib.hid hz
                  have HAp3 := Lib.hid ha
                  have HQy := Lib.hid (HQp2.out.trans hb)
                  have HXa := Lib.hid ((hb.block wr.heap.size (Array.getElem?_eq_some_iff.1 HXr2.out).1 (by have := HSX.out; have := HRS.out; omega)).trans HXr2.out)
                  rw [← congrArg Prod.fst hy]
                  simp only
                  obtain ⟨k0, k1⟩ := row_at HXa.out 2 _ rfl
                  have HXr3 := Lib.hid (row_set HXa.out 2 (.string pv))
                  have HQp3 : Hid (ButB w.heap.size wr (u3.setCell ⟨wr.heap.size, 2, none⟩ (.string pv))) := HQy.out.setNew (Nat.le_refl _) _
                  have HXp3 : Hid (IsR (u3.setCell ⟨wr.heap.size, 2, none⟩ (.string pv)) w.heap.size A n c l z3) := hx.but (HH.out.below (HB.out.trans ((HQ10.out.trans HQp3.out).below HB.out.size (Nat.le_refl _)))) (by have := HSX.out; have := HRS.out; omega) ((ButB.refl wr.heap.size u3).setCell 2 _)
                  have hszp : v9.heap.size ≤ u3.heap.size := by have := HSZ10.out; have := HQy.out.size; omega
                  clear hx hb ha hy HQy HXa hz
                  have HSr2 := Lib.hid ((HQp3.out.block gS HSX.out (by have := HRS.out; omega)).trans HSr.out)
                  obtain ⟨s0, s1⟩ := row_at HSr2.out 6 _ rfl
                  rw [hgS] at s0 s1
                  obtain ⟨q0, _⟩ := row_at HXr3.out 0 _ rfl
                  obtain ⟨q1, _⟩ := row_at HXr3.out 1 _ rfl
                  obtain ⟨q2, _⟩ := row_at HXr3.out 2 _ rfl
                  have HOK2 := Lib.hid (own_but HOK.out (by have := HRS.out; have := HSZ9.out; omega) HQp3.out)
                  have hP64 : P.length ≤ 64 := by have := HPL.out; omega
                  have HZZ : Hid (pn.size ≤ maxLen ∧ pv.size ≤ maxLen) := ⟨Nat.le_trans HZp1.out (Nat.le_trans HLL.out (by decide)), Nat.le_trans HZp3.out (Nat.le_trans HLL.out (by decide))⟩
                  go_wp2_with (at_builtin; refine wpList_append_slk rfl _ _ _ rfl v9.heap.size 53 Tryd.underlying26 (by kernel_rfl) _ rfl P (HOK2.out.alloc _) _ _ _ rfl [(⟨pn, ph == 1, pv⟩ : Pk)] (SlK.oneAt _ _ (⟨pn, ph == 1, pv⟩ : Pk) HZZ.out (by simp)) (by simp; omega) (by simp; omega) _ ((Below.refl v9.heap.size _).alloc (by simp; omega) _) ?_; intro vv w3 ho1 hb1 hz1; obtain ⟨A4, c4, hv4⟩ := own_form ho1.out; rw [List.length_append, List.length_singleton] at hv4; subst hv4; have HSr3 := Lib.hid ((hb1.block gS HSZ9.out).trans HSr2.out); obtain ⟨t0, t1⟩ := row_at HSr3.out 6 _ rfl; rw [hgS] at t0 t1)
                  have HQ12 := Lib.hid (((HQ10.out.trans HQp3.out).thenBelow hb1 (by have := HSZ9.out; rw [← hgS]; omega)).setNew (p := ⟨gS, 6, none⟩) (by rw [hgS]; exact Nat.le_refl _) (.slice A4 (P.length + 1) c4))
                  have HO12 := Lib.hid (own_but ho1.out HSZ9.out ((ButB.refl gS w3).setCell 6 (.slice A4 (P.length + 1) c4)))
                  have HS12 := Lib.hid (row_set HSr3.out 6 (.slice A4 (P.length + 1) c4))
                  have HX12 := Lib.hid (HXp3.out.move (HH.out.below (HB.out.trans (HQ12.out.below HB.out.size (Nat.le_refl _)))) ((Below.heap_setCell w3 ⟨gS, 6, none⟩ (.slice A4 (P.length + 1) c4) _ (by have := HRS.out; show w.heap.size ≠ gS; omega)).trans (hb1.block _ (by have := HRS.out; have := HSZ9.out; omega))))
                  have HFK12 : Hid (∀ ad, A3 = some ad → (w3.setCell ⟨gS, 6, none⟩ (.slice A4 (P.length + 1) c4)).heap[ad.block]? = v9.heap[ad.block]?) := fun ad ha => by
                    have h1 := HFB.out ad ha
                    have := HSZ10.out
                    have := HRS.out
                    exact (Below.heap_setCell w3 ⟨gS, 6, none⟩ _ _ (by show ad.block ≠ gS; omega)).trans ((hb1.block _ h1.2).trans ((HQp3.out.block _ (by omega) (by omega)).trans (HFK.out ad ha)))
                  have HSZ12 : Hid (v9.heap.size ≤ (w3.setCell ⟨gS, 6, none⟩ (.slice A4 (P.length + 1) c4)).heap.size) := by
                    show _ ≤ _
                    have h1 : w3.heap.size ≤ (w3.setCell ⟨gS, 6, none⟩ (.slice A4 (P.length + 1) c4)).heap.size := ((ButB.refl gS w3).setCell 6 (.slice A4 (P.length + 1) c4)).size
                    have h2 := hb1.size
                    have h3 := HQp3.out.size
                    have h4 := HSZ10.out
                    omega
                  go_roundw
                  case rel =>
                    rw [← hgS]
                    exact ⟨q + 1, P ++ [(⟨pn, ph == 1, pv⟩ : Pk)], _, z3, by omega, by go_num, by show _ = _; rw [List.length_append, HPL.out]; rfl, HS12.out, HO12.out, (fun z hz => by
                      rcases List.mem_append.1 hz with h | h
                      · exact HZP.out z h
                      · rw [List.mem_singleton] at h; subst h; exact HZZ.out), HFK12.out, HSZ12.out, HX12.out, HQ12.out, HAp3.out⟩
                  case measure => simp [intOf]; omega
                · have hE' : (E == 0) = false := by simpa using hE
                  have HA13 : Hid (At l (vntP l) (I, E) (KP P)) := HA10.out.any hE
                  rw [HKP.out] at HA13
                  obtain ⟨A5, c5, hv5⟩ := own_form HOK.out
                  subst hv5
                  obtain ⟨y, hy⟩ : ∃ y : Sd, y = ⟨⟨⟨sc, sr, sv, F, sb, st⟩, P⟩, A3, c3, A5, c5⟩ := ⟨_, rfl⟩
                  have HYA := Lib.hid (show sdA y = #[.int .i64 sc, .string sr, .int .i64 sv, .slice A3 F.length c3, .string sb, .int .i64 st, .slice A5 P.length c5] by rw [hy]; rfl)
                  have HYX := Lib.hid (show y.x = ⟨⟨sc, sr, sv, F, sb, st⟩, P⟩ by rw [hy])
                  have HYT := Lib.hid (show SdTy wr y from by
                    rw [hy]
                    exact ⟨⟨(slf_own HO9.out HZF.out).blocks HFK.out, slk_own HOK.out HZP.out⟩, (TyA.of_own HO9.out).keep HFK.out, TyA.of_own HOK.out⟩)
                  have HYZ := Lib.hid (show y.x.s.r.size ≤ maxLen ∧ y.x.s.b.size ≤ maxLen from by
                    rw [hy]
                    exact ⟨Nat.le_trans HZ4.out (Nat.le_trans HLL.out (by decide)), Nat.le_trans HZ8.out (Nat.le_trans HLL.out (by decide))⟩)
                  clear hy
                  have HOd : Hid (OwnD wr (w.heap.size + 1) 28 v0 L) := own_but HO.out (Nat.lt_succ_self _) HQ10.out
                  obtain ⟨s0, _⟩ := row_at HSr.out 0 _ rfl
                  obtain ⟨s1, _⟩ := row_at HSr.out 1 _ rfl
                  obtain ⟨s2, _⟩ := row_at HSr.out 2 _ rfl
                  obtain ⟨s3, _⟩ := row_at HSr.out 3 _ rfl
                  obtain ⟨s4, _⟩ := row_at HSr.out 4 _ rfl
                  obtain ⟨s5, _⟩ := row_at HSr.out 5 _ rfl
                  obtain ⟨s6, _⟩ := row_at HSr.out 6 _ rfl
                  rw [hgS] at s0 s1 s2 s3 s4 s5 s6
                  have hL4 : L.length ≤ 4 := by have := HLE.out; omega
                  have hRw : w.heap.size + 1 ≤ wr.heap.size := HX10.out.lt
                  go_wp2_with (at_builtin; rw [← HYA.out]; refine wpList_append_sldG rfl _ _ _ rfl (w.heap.size + 1) 28 Tryd.underlying22 (by kernel_rfl) _ rfl L (OwnD.alloc HOd.out _) _ _ _ rfl [y] rfl (fun j u hu => cell_of_own (OwnD.one wr 28 y (Nat.le_refl _)) j u hu) (by simp; omega) (by simp; omega) ?_; intro vv w4 ho1 hg1)
                  have HT : ∀ z, SdTy wr z → SdTy w4 z := fun z hz => (hz.but HX10.out.1 rfl rfl ((ButB.refl w.heap.size wr).allocNew _)).grown (OwnD.alloc HOd.out _) rfl rfl hg1.out
                  have HBn : Hid (Below w.heap.size w w4) := Below.grown (HB.out.trans ((HQ10.out.allocNew _).below HB.out.size (Nat.le_refl _))) hg1.out (Nat.le_trans (Nat.le_of_lt HX10.out.lt) (ButB.allocNew (ButB.refl w.heap.size wr) _).size) (fun k hk => Nat.le_of_succ_le (World.ownsRow.lt (OwnD.alloc HOd.out (.cells (sdA y) 28)) k hk).1)
                  have HXn : Hid (IsR w4 w.heap.size A n c l (I, E)) := HX10.out.move (HH.out.below HBn.out) ((hg1.out.block _ (Nat.lt_of_lt_of_le HX10.out.lt (ButB.allocNew (ButB.refl w.heap.size wr) _).size) (fun q => absurd (World.ownsRow.lt (OwnD.alloc HOd.out (.cells (sdA y) 28)) _ q.symm).1 (Nat.not_succ_le_self _))).trans (((ButB.of_below ((Below.refl wr.heap.size wr).alloc (Nat.le_refl _) _) : ButB wr.heap.size wr _).block _ HX10.out.lt (Nat.ne_of_lt HX10.out.lt))))
                  have HAn : Hid (At l (vntP l) (I, E) (vntK N (j + 1) ((L ++ [y]).map fun z => z.x))) := HA13.out.to (by rw [List.map_append, List.map_cons, List.map_nil, HYX.out]; rfl)
                  have HAL : Hid (∀ z ∈ L ++ [y], SdTy w4 z ∧ z.x.s.r.size ≤ maxLen ∧ z.x.s.b.size ≤ maxLen) := fun z hz => by
                    rcases List.mem_append.1 hz with h | h
                    · exact ⟨HT z ((HALL.out z h).1.but HX.out.1 rfl rfl HQ10.out), (HALL.out z h).2⟩
                    · rw [List.mem_singleton] at h; subst h; exact ⟨HT z HYT.out, HYZ.out⟩
                  refine ⟨⟨j + 1, L ++ [y], (I, E), by omega, by go_num, ?_, ho1.out, HAL.out, HXn.out, HBn.out, HAn.out⟩, ?_⟩
                  · show _ = _; rw [List.length_append, HLE.out]; rfl
                  · simp [intOf]; omega
              · have hq1 : ¬ (q : Int) < (Np : Int) := by omega
                have HA13 : Hid (At l (vntP l) (I, E) (KP P)) := HA10.out.to (repK_end pckP KP P (by omega))
                rw [HKP.out] at HA13
                obtain ⟨A5, c5, hv5⟩ := own_form HOK.out
                subst hv5
                obtain ⟨y, hy⟩ : ∃ y : Sd, y = ⟨⟨⟨sc, sr, sv, F, sb, st⟩, P⟩, A3, c3, A5, c5⟩ := ⟨_, rfl⟩
                have HYA := Lib.hid (show sdA y = #[.int .i64 sc, .string sr, .int .i64 sv, .slice A3 F.length c3, .string sb, .int .i64 st, .slice A5 P.length c5] by rw [hy]; rfl)
                have HYX := Lib.hid (show y.x = ⟨⟨sc, sr, sv, F, sb, st⟩, P⟩ by rw [hy])
                have HYT := Lib.hid (show SdTy wr y from by
                  rw [hy]
                  exact ⟨⟨(slf_own HO9.out HZF.out).blocks HFK.out, slk_own HOK.out HZP.out⟩, (TyA.of_own HO9.out).keep HFK.out, TyA.of_own HOK.out⟩)
                have HYZ := Lib.hid (show y.x.s.r.size ≤ maxLen ∧ y.x.s.b.size ≤ maxLen from by
                  rw [hy]
                  exact ⟨Nat.le_trans HZ4.out (Nat.le_trans HLL.out (by decide)), Nat.le_trans HZ8.out (Nat.le_trans HLL.out (by decide))⟩)
                clear hy
                have HOd : Hid (OwnD wr (w.heap.size + 1) 28 v0 L) := own_but HO.out (Nat.lt_succ_self _) HQ10.out
                obtain ⟨s0, _⟩ := row_at HSr.out 0 _ rfl
                obtain ⟨s1, _⟩ := row_at HSr.out 1 _ rfl
                obtain ⟨s2, _⟩ := row_at HSr.out 2 _ rfl
                obtain ⟨s3, _⟩ := row_at HSr.out 3 _ rfl
                obtain ⟨s4, _⟩ := row_at HSr.out 4 _ rfl
                obtain ⟨s5, _⟩ := row_at HSr.out 5 _ rfl
                obtain ⟨s6, _⟩ := row_at HSr.out 6 _ rfl
                rw [hgS] at s0 s1 s2 s3 s4 s5 s6
                have hL4 : L.length ≤ 4 := by have := HLE.out; omega
                have hRw : w.heap.size + 1 ≤ wr.heap.size := HX10.out.lt
                go_wp2_with (at_builtin; rw [← HYA.out]; refine wpList_append_sldG rfl _ _ _ rfl (w.heap.size + 1) 28 Tryd.underlying22 (by kernel_rfl) _ rfl L (OwnD.alloc HOd.out _) _ _ _ rfl [y] rfl (fun j u hu => cell_of_own (OwnD.one wr 28 y (Nat.le_refl _)) j u hu) (by simp; omega) (by simp; omega) ?_; intro vv w4 ho1 hg1)
                have HT : ∀ z, SdTy wr z → SdTy w4 z := fun z hz => (hz.but HX10.out.1 rfl rfl ((ButB.refl w.heap.size wr).allocNew _)).grown (OwnD.alloc HOd.out _) rfl rfl hg1.out
                have HBn : Hid (Below w.heap.size w w4) := Below.grown (HB.out.trans ((HQ10.out.allocNew _).below HB.out.size (Nat.le_refl _))) hg1.out (Nat.le_trans (Nat.le_of_lt HX10.out.lt) (ButB.allocNew (ButB.refl w.heap.size wr) _).size) (fun k hk => Nat.le_of_succ_le (World.ownsRow.lt (OwnD.alloc HOd.out (.cells (sdA y) 28)) k hk).1)
                have HXn : Hid (IsR w4 w.heap.size A n c l (I, E)) := HX10.out.move (HH.out.below HBn.out) ((hg1.out.block _ (Nat.lt_of_lt_of_le HX10.out.lt (ButB.allocNew (ButB.refl w.heap.size wr) _).size) (fun q => absurd (World.ownsRow.lt (OwnD.alloc HOd.out (.cells (sdA y) 28)) _ q.symm).1 (Nat.not_succ_le_self _))).trans (((ButB.of_below ((Below.refl wr.heap.size wr).alloc (Nat.le_refl _) _) : ButB wr.heap.size wr _).block _ HX10.out.lt (Nat.ne_of_lt HX10.out.lt))))
                have HAn : Hid (At l (vntP l) (I, E) (vntK N (j + 1) ((L ++ [y]).map fun z => z.x))) := HA13.out.to (by rw [List.map_append, List.map_cons, List.map_nil, HYX.out]; rfl)
                have HAL : Hid (∀ z ∈ L ++ [y], SdTy w4 z ∧ z.x.s.r.size ≤ maxLen ∧ z.x.s.b.size ≤ maxLen) := fun z hz => by
                  rcases List.mem_append.1 hz with h | h
                  · exact ⟨HT z ((HALL.out z h).1.but HX.out.1 rfl rfl HQ10.out), (HALL.out z h).2⟩
                  · rw [List.mem_singleton] at h; subst h; exact ⟨HT z HYT.out, HYZ.out⟩
                refine ⟨⟨j + 1, L ++ [y], (I, E), by omega, by go_num, ?_, ho1.out, HAL.out, HXn.out, HBn.out, HAn.out⟩, ?_⟩
                · show _ = _; rw [List.length_append, HLE.out]; rfl
                · simp [intOf]; omega
      · have hE' : (E == 0) = false := by simpa using hE
        have HV := Lib.hid ((vd_at (L := []) (HAT.out.any hE) HX.out.2.2).1 hE)
        go_wp2_with fail
        go_quiet (fail)
        go_wp2_with fail
        go_ret2
        rw [HV.out.1]
        exact ⟨none, 0, 0, [], rfl, SlD.none_ _, by rw [HV.out.2]; rfl, below_drawn HB.out _⟩
    · have hi1 : ¬ (j : Int) < (N : Int) := by omega
      have HAE := Lib.hid (HAT.out.to (vntK_end _ (by omega)))
      have d1 := (r_cells HX.out.1).2.1
      have f2 := (r_cells HX.out.1).2.2.2.2
      simp only at d1
      by_cases hE : E = 0
      · subst hE
        have hnn : l.length = n := HH.out.len
        by_cases hI : I < l.length
        · have hI' : (I : Int) < (n : Int) := by omega
          have HV := Lib.hid ((vd_at HAE.out HX.out.2.2).2.1 rfl hI)
          have hX1 : wO.heap[w.heap.size]? = some (.cells #[.slice A n c, .int .i64 (I : Int), .int .i64 0] 83 (0, 0)) := HX.out.1
          have hs2 := r_set2 hX1 (.int .i64 5)
          obtain ⟨_, _, e2, _, _⟩ := r_cells hs2
          have HBs : Hid (Below w.heap.size w (wO.setCell ⟨w.heap.size, 2, none⟩ (.int .i64 5))) := HB.out.setCell (Nat.le_refl _) _
          clear hs2 hX1
          go_wp2_with fail
          go_quiet (fail)
          go_wp2_with fail
          go_ret2
          rw [HV.out.1]
          exact ⟨none, 0, 0, [], rfl, SlD.none_ _, by rw [HV.out.2]; rfl, below_drawn HBs.out _⟩
        · have hI' : ¬ (I : Int) < (n : Int) := by omega
          have HV := Lib.hid ((vd_at HAE.out HX.out.2.2).2.2 rfl hI)
          have HSD : ∃ A' c', v0 = .slice A' L.length c' ∧ SlD wO A' L.length c' L := OwnD.sld HO.out (fun y hy => (HALL.out y hy).1.a) (fun y hy => (HALL.out y hy).2)
          obtain ⟨A', c', hv, hs⟩ := HSD
          subst hv
          have HSS := Lib.hid hs
          clear hs
          go_wp2_with fail
          go_ret2
          rw [HV.out.1]
          exact ⟨A', L.length, c', rfl, L, HSS.out, HV.out.2.symm, HB.out⟩
      · have hE' : (E == 0) = false := by simpa using hE
        have HV := Lib.hid ((vd_at HAE.out HX.out.2.2).1 hE)
        go_wp2_with fail
        go_quiet (fail)
        go_wp2_with fail
        go_ret2
        rw [HV.out.1]
        exact ⟨none, 0, 0, [], rfl, SlD.none_ _, by rw [HV.out.2]; rfl, below_drawn HB.out _⟩

end Go.Proofs.YthhlcecojeaalaaDoor
end
