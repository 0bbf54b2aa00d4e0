/-
  Texts that the laws of this seat lean on, one behind the other.
-/
import Derived.Test.YtjcomlklmfeimaaGreatDoorMrgAC
import Derived.Test.YtjcomlklmfeimaaGreatDoorMrgAF
import Derived.Test.YtjcomlklmfeimaaGreatDoorMrgX
import Derived.Test.YtjcomlklmfeimaaGreatDoorMrgQ
import Derived.Lib.AppendZeros
import Derived.Laws.AppendOwnNone
import Derived.Test.YtjcomlklmfeimaaGreatDoorMrgS
import Derived.Test.YtjcomlklmfeimaaGreatDoorMrgAB
import Derived.Test.YtjcomlklmfeimaaGreatDoorMrgN
/-
  Contracts of package message's Bodiless, replyBody, status, ParseRequest, ParseReply.
-/
section
namespace Go.Proofs.YtjcomlklmfeimaaGreatDoor
open Go.RowKit

/-- The tables that package message leans on. -/
structure MsgTabs (w : World) : Prop where
  lin : LinTabs w
  chk : ChkTabs w
theorem MsgTabs.kept {w w' : World} (h : MsgTabs w) (hb : Below w.heap.size w w') : MsgTabs w' := ⟨h.lin.kept hb, h.chk.kept hb⟩

theorem bodl_any (c : Int) (w : World) :
    Calls Tryz.prog 25 #[.int .i64 c] w fun e w' => e = .returned (.bool (bodL c)) ∧ Below w.heap.size w w' := by
  have hD : bodL c = (decide (c = 204) || decide (c = 304)) := rfl
  generalize bodL c = R at *
  by_cases h1 : c = 204
  · have HR : Hid (R = true) := by show _ = _; rw [hD, h1]; rfl
    have h1' : (c == 204) = true := by simpa using h1
    clear hD h1
    go_enter Tryz.func25, Tryz.ntmps25
    go_wp2_with fail
    go_ret
    exact ⟨by rw [HR.out]; rfl, Below.refl _ _⟩
  · have h1' : (c == 204) = false := by simpa using h1
    by_cases h2 : c = 304
    · have HR : Hid (R = true) := by show _ = _; rw [hD, h2]; rfl
      have h2' : (c == 304) = true := by simpa using h2
      clear hD h1 h2
      go_enter Tryz.func25, Tryz.ntmps25
      go_wp2_with fail
      go_ret
      exact ⟨by rw [HR.out]; rfl, Below.refl _ _⟩
    · have h2' : (c == 304) = false := by simpa using h2
      have HR : Hid (R = false) := by show _ = _; rw [hD, decide_eq_false h1, decide_eq_false h2]; rfl
      clear hD h1 h2
      go_enter Tryz.func25, Tryz.ntmps25
      go_wp2_with fail
      go_ret
      exact ⟨by rw [HR.out]; rfl, Below.refl _ _⟩

def rbB (X : List Fd) (rs : ByteArray) (mi : Int) (si : Bool) : ByteArray := if si then ⟨#[]⟩ else bodB X rs mi true
def rbE (X : List Fd) (rs : ByteArray) (mi : Int) (si : Bool) : Int := if si then (if rs.size = 0 then 0 else 22) else bodE X rs mi true
set_option maxRecDepth 100000 in
theorem replyBody_any (w : World) (P : Nat) (st : ByteArray) (A : Option Addr) (n c : Nat) (L : List (List UInt8)) (mi : Int) (A2 : Option Addr) (c2 : Nat) (X : List Fd) (rs : ByteArray) (si : Bool) (h : Msg w P st A n c L mi (.slice A2 X.length c2) X rs)
    (hX : SlF w A2 X.length c2 X) (hn : X.length ≤ 1000000) (hB : ∀ x ∈ X, Bd x) (hrs : rs.size ≤ 1000000) (HT : ChkTabs w) :
    Calls Tryz.prog 43 #[.pointer (some ⟨P, 0, none⟩), .bool si] w fun e w' => e = .returned (.tuple #[.string (rbB X rs mi si), .int .i64 (rbE X rs mi si)]) ∧ Below w.heap.size w w' := by
  cases si with
  | true =>
    have C := Lib.hid (none_any P rs w h.cells.2.2.2.2.1)
    unfold rbB rbE
    rw [if_pos rfl, if_pos rfl]
    generalize (if rs.size = 0 then (0 : Int) else 22) = RE at *
    clear h hX hB HT
    go_enter Tryz.func43, Tryz.ntmps43
    go_wp2_with fail
    refine C.out.mono ?_
    rintro e w1 ⟨rfl, hb⟩
    go_wp2_with fail
    go_ret2
    exact ⟨rfl, hb⟩
  | false =>
    have C := Lib.hid (body_all w P st A n c L mi A2 c2 X rs h hX hn hB hrs HT)
    unfold rbB rbE
    rw [if_neg (by decide), if_neg (by decide)]
    generalize bodE X rs mi true = RE at *
    generalize bodB X rs mi true = RB at *
    clear h hX hB HT
    go_enter Tryz.func43, Tryz.ntmps43
    go_wp2_with fail
    refine C.out.mono ?_
    rintro e w1 ⟨rfl, hb⟩
    go_wp2_with fail
    go_ret2
    exact ⟨rfl, hb⟩

/-- The code of status. -/
def mstE (s : ByteArray) : Int := if stE s ≠ 0 then stE s else if stN s < 200 then 20 else 0
set_option maxRecDepth 100000 in
theorem mstatus_any (s : ByteArray) (w : World) (hs : s.size ≤ maxLen) (HT : LinTabs w) :
    Calls Tryz.prog 42 #[.string s] w fun e w' => ∃ n r v, e = .returned (.tuple #[.int .i64 n, .string r, .int .i64 v, .int .i64 (mstE s)]) ∧ (mstE s = 0 → stN s = n ∧ stB s = r ∧ stV' s = v) ∧ Below w.heap.size w w' := by
  have C := Lib.hid (status_any s w hs HT)
  have hD : mstE s = if stE s ≠ 0 then stE s else if stN s < 200 then 20 else 0 := rfl
  generalize mstE s = R at *
  generalize stE s = E at *
  generalize stN s = N at *
  generalize stB s = B at *
  generalize stV' s = V at *
  clear hs HT
  by_cases hE : E = 0
  · rw [if_neg (by simp [hE])] at hD
    subst hE
    by_cases hN : N < 200
    · rw [if_pos hN] at hD
      have HR := Lib.hid hD
      clear hD
      go_enter Tryz.func42, Tryz.ntmps42
      go_wp2_with fail
      refine C.out.mono ?_
      rintro e w1 ⟨rfl, hb⟩
      go_wp2_with fail
      refine bodyPost_ret (results_tmp4 rfl _ _ _) rfl ?_
      exact ⟨_, _, _, by rw [HR.out]; rfl, (fun h => absurd (HR.out.symm.trans h) (by decide)), hb⟩
    · rw [if_neg hN] at hD
      have HR := Lib.hid hD
      clear hD
      go_enter Tryz.func42, Tryz.ntmps42
      go_wp2_with fail
      refine C.out.mono ?_
      rintro e w1 ⟨rfl, hb⟩
      go_wp2_with fail
      refine bodyPost_ret (results_tmp4 rfl _ _ _) rfl ?_
      exact ⟨_, _, _, by rw [HR.out]; rfl, fun _ => ⟨rfl, rfl, rfl⟩, hb⟩
  · rw [if_pos (by simpa using hE)] at hD
    subst hD
    have HE := Lib.hid hE
    have hE1 : (R == 0) = false := by simpa using hE
    clear hE
    go_enter Tryz.func42, Tryz.ntmps42
    go_wp2_with fail
    refine C.out.mono ?_
    rintro e w1 ⟨rfl, hb⟩
    go_wp2_with fail
    refine bodyPost_ret (results_tmp4 rfl _ _ _) rfl ?_
    exact ⟨_, _, _, rfl, fun h => absurd h HE.out, hb⟩

theorem rw_bd {L : List (List UInt8)} (h : ∀ x ∈ L, x.length ≤ 1000000) : ∀ f ∈ rwF L, Bd f := fun f hf => by
  have := rwF_sz h f hf
  exact ⟨by omega, by omega⟩
theorem rw_mx {L : List (List UInt8)} (h : ∀ x ∈ L, x.length ≤ 1000000) : ∀ f ∈ rwF L, f.1.size ≤ maxLen ∧ f.2.size ≤ maxLen := fun f hf => by
  have := rw_bd h f hf
  exact ⟨this.one, this.two⟩
theorem rw_few (L : List (List UInt8)) : (rwF L).length ≤ 64 := by
  by_cases hl : 64 < L.length
  · have h1 : rwE L = 4 := by unfold rwE; rw [if_pos hl]
    unfold rwF; rw [h1]; exact Nat.zero_le _
  · have := rwF_le L; omega
theorem ver_two {s : ByteArray} (h : 0 ≤ verI s) : verI s = 0 ∨ verI s = 1 := by
  unfold verI at h ⊢
  split
  · exact .inl rfl
  · split
    · exact .inr rfl
    · rename_i h1 h2
      rw [if_neg h1, if_neg h2] at h
      omega
theorem rq_ver (s : ByteArray) : rqV s = 0 ∨ rqV s = 1 := by
  unfold rqV
  split
  · rename_i h
    have ho : rqO s = true := by
      unfold rqE at h
      by_cases h1 : 8192 < s.size
      · rw [if_pos h1] at h; cases h
      · rw [if_neg h1] at h
        by_cases h2 : rqO s = true
        · exact h2
        · rw [if_neg h2] at h; cases h
    unfold rqO rqH at ho
    simp only [Bool.and_eq_true, decide_eq_true_eq] at ho
    exact ver_two ho.1.2
  · exact .inl rfl
theorem st_ver (s : ByteArray) : stV' s = 0 ∨ stV' s = 1 := by
  unfold stV'
  split
  · rename_i h
    have ho : stO s = true := by
      unfold stE at h
      by_cases h1 : 8192 < s.size
      · rw [if_pos h1] at h; cases h
      · rw [if_neg h1] at h
        by_cases h2 : stO s = true
        · exact h2
        · rw [if_neg h2] at h; cases h
    unfold stO stH at ho
    simp only [Bool.and_eq_true, decide_eq_true_eq] at ho
    exact ver_two ho.1.1.1.2
  · exact .inl rfl
/-- A store of one cell elsewhere. -/
theorem set_else {w : World} {B P j : Nat} {v : Value} {o : Obj} (h : w.heap[B]? = some o) (hne : B ≠ P) : (w.setCell ⟨P, j, none⟩ v).heap[B]? = some o := by
  rw [Below.heap_setCell _ _ _ _ (by simp only; omega)]; exact h

set_option maxHeartbeats 32000000 in
set_option maxRecDepth 100000 in
theorem msgQ_any (raw : ByteArray) (w : World) (hs : raw.size ≤ 1000000) (HT : MsgTabs w) :
    Calls Tryz.prog 9 #[.string raw] w (IsRq w (pqR raw) (pqE raw)) := by
  have HZ : Hid ((w.alloc (.cells #[.string ⟨#[]⟩, .string ⟨#[]⟩, .int .i64 0, .slice none 0 0, .string ⟨#[]⟩] 25)).heap[w.heap.size]? = some (.cells #[.string ⟨#[]⟩, .string ⟨#[]⟩, .int .i64 0, .slice none 0 0, .string ⟨#[]⟩] 25 (0, 0))) := heap_alloc_new w _
  have hb0 : Below w.heap.size w (w.alloc (.cells #[.string ⟨#[]⟩, .string ⟨#[]⟩, .int .i64 0, .slice none 0 0, .string ⟨#[]⟩] 25)) := (Below.refl _ _).alloc (Nat.le_refl _) _
  have HB := Lib.hid hb0
  have HLT := Lib.hid (show w.heap.size < (w.alloc (.cells #[.string ⟨#[]⟩, .string ⟨#[]⟩, .int .i64 0, .slice none 0 0, .string ⟨#[]⟩] 25)).heap.size by simp)
  have hbad := fun (k : Int) (h : pqE raw = k) (hk : k ≠ 0) => pq_bad h hk
  have hE : pqE raw = if 65536 < raw.size then 4 else if hdB raw = false then 5 else if rqE (l1S raw) ≠ 0 then rqE (l1S raw) else if rsE raw ≠ 0 then rsE raw
      else if hoB (rsF raw) (rqV (l1S raw)) = false then 26 else bodE (rsF raw) (hdR raw) (rqV (l1S raw)) false := rfl
  have hR : pqE raw = 0 → pqR raw = ⟨rqA (l1S raw), rqB (l1S raw), rqV (l1S raw), fdDrop (rsF raw) frm, bodB (rsF raw) (hdR raw) (rqV (l1S raw)) false⟩ := fun h => by unfold pqR; rw [if_pos h]
  by_cases hl : 65536 < raw.size
  · rw [if_pos hl] at hE
    have HR := Lib.hid (hbad 4 hE (by decide))
    unfold rq0 at HR
    have C0 := Lib.hid (fun W (_ : Below w.heap.size w W) => divide_long raw W hl)
    generalize pqE raw = PE at *
    generalize pqR raw = PR at *
    clear hbad hE hR hl HT hb0
    go_enter Tryz.func9, Tryz.ntmps9
    go_wp2_with fail
    refine (C0.out _ HB.out).mono ?_
    rintro e w1 ⟨rfl, hb1⟩
    have HB1 := Lib.hid (below_then HB.out hb1)
    have HZ1 := Lib.hid (zero_still hb1 HZ.out)
    clear hb1
    go_wp2_with (refine wpList_store_row rfl _ _ _ rfl w.heap.size #[.string ⟨#[]⟩, .string ⟨#[]⟩, .int .i64 0, .slice none 0 0, .string ⟨#[]⟩] rfl rfl 25 _ HZ1.out (by kernel_rfl) rfl (by simp [Value.oneCell']) ?_)
    refine bodyPost_ret (results_cell_row_tmp rfl _ _ w.heap.size 25 #[.string ⟨#[]⟩, .string ⟨#[]⟩, .int .i64 0, .slice none 0 0, .string ⟨#[]⟩] (0, 0) _ rfl (setRow_heap _ _ _ _ _ _ HZ1.out) Tryz.underlying25 rfl (by kernel_rfl)) rfl ?_
    exact ⟨none, 0, by rw [HR.out.1, HR.out.2]; rfl, by rw [HR.out.2]; exact SlF.none_ _, FreshA.none_ _, below_setRow HB1.out (Nat.le_refl _) _⟩
  · rw [if_neg hl] at hE
    obtain ⟨g1, g2, g3⟩ := hd_le raw
    by_cases hb : hdB raw = false
    · rw [if_pos hb] at hE
      have HR := Lib.hid (hbad 5 hE (by decide))
      unfold rq0 at HR
      have C0 := Lib.hid (fun W (hW : Below w.heap.size w W) => divide_bad raw W hl (HT.kept hW).chk hb)
      generalize pqE raw = PE at *
      generalize pqR raw = PR at *
      clear hbad hE hR hl HT hb hb0
      go_enter Tryz.func9, Tryz.ntmps9
      go_wp2_with fail
      refine (C0.out _ HB.out).mono ?_
      rintro e w1 ⟨rfl, hb1⟩
      have HB1 := Lib.hid (below_then HB.out hb1)
      have HZ1 := Lib.hid (zero_still hb1 HZ.out)
      clear hb1
      go_wp2_with (refine wpList_store_row rfl _ _ _ rfl w.heap.size #[.string ⟨#[]⟩, .string ⟨#[]⟩, .int .i64 0, .slice none 0 0, .string ⟨#[]⟩] rfl rfl 25 _ HZ1.out (by kernel_rfl) rfl (by simp [Value.oneCell']) ?_)
      refine bodyPost_ret (results_cell_row_tmp rfl _ _ w.heap.size 25 #[.string ⟨#[]⟩, .string ⟨#[]⟩, .int .i64 0, .slice none 0 0, .string ⟨#[]⟩] (0, 0) _ rfl (setRow_heap _ _ _ _ _ _ HZ1.out) Tryz.underlying25 rfl (by kernel_rfl)) rfl ?_
      exact ⟨none, 0, by rw [HR.out.1, HR.out.2]; rfl, by rw [HR.out.2]; exact SlF.none_ _, FreshA.none_ _, below_setRow HB1.out (Nat.le_refl _) _⟩
    · rw [if_neg hb] at hE
      have hb' : hdB raw = true := by simpa using hb
      obtain ⟨x, tl, hx⟩ := hd_cons hb'
      have C1 := Lib.hid (fun W (hW : Below w.heap.size w W) => divide_good raw W hl (HT.kept hW).chk hb' x tl hx)
      have e1 : l1S raw = mkS x := by unfold l1S; rw [hx]; rfl
      have e2 : rsF raw = rwF tl := by unfold rsF; rw [hx]; rfl
      have e3 : rsE raw = rwE tl := by unfold rsE; rw [hx]; rfl
      rw [e1, e2, e3] at hE
      rw [e1, e2] at hR
      rw [hx] at g3 g2
      have gx := g3 x (List.mem_cons_self ..)
      have gt : ∀ y ∈ tl, y.length ≤ 1000000 := fun y hy => Nat.le_trans (g3 y (List.mem_cons_of_mem _ hy)) hs
      rw [List.length_cons] at g2
      have hms : (mkS x).size ≤ maxLen := by rw [mkS_size]; have : (1000000 : Nat) ≤ maxLen := by decide
                                             omega
      have C2 := Lib.hid (fun W (hW : Below w.heap.size w W) => request_any (mkS x) W hms (HT.kept hW).lin)
      unfold Dvd at C1
      generalize mkS x = ms at *
      have C3 := Lib.hid (fun W P' A' n' c' (hW : Msg W P' ms A' n' c' tl (rqV ms) (.slice none 0 0) [] (hdR raw)) => read_any W P' ms A' n' c' tl (rqV ms) (hdR raw) hW (by omega) gt)
      have gf := rw_bd gt
      have gl := rw_few tl
      have HMX := Lib.hid (rw_mx gt)
      have HSZ := Lib.hid (fdDrop_sz (N := frm) (rwF_sz gt))
      have C4 := Lib.hid (fun W A' c' (hW : SlF W A' (rwF tl).length c' (rwF tl)) => hostError_any A' _ c' (rwF tl) (rqV ms) (rq_ver ms) W hW (by omega) gf)
      have C5 := Lib.hid (fun W P' A' n' c' A2' c2' (hW : Below w.heap.size w W) (hM : Msg W P' ms A' n' c' tl (rqV ms) (.slice A2' (rwF tl).length c2') (rwF tl) (hdR raw)) (hF : SlF W A2' (rwF tl).length c2' (rwF tl)) => body_none W P' ms A' n' c' tl (rqV ms) A2' c2' (rwF tl) (hdR raw) hM hF (by omega) gf (by omega) (HT.kept hW).chk)
      have C6 := Lib.hid (fun W A' c' (hW : SlF W A' (rwF tl).length c' (rwF tl)) => unframe_any A' _ c' (rwF tl) W hW (by omega) gf)
      have hhe : hoE (rwF tl) (rqV ms) = if hoB (rwF tl) (rqV ms) then 0 else 26 := rfl
      clear e1 e2 e3 hx g1 g2 g3 gx gt gf gl hms hb hb' hl HT hb0
      generalize pqE raw = PE at *
      generalize pqR raw = PR at *
      generalize hdR raw = rest at *
      generalize rqA ms = RA at *
      generalize rqB ms = RB at *
      generalize rqV ms = RV at *
      generalize rqE ms = RE at *
      generalize rwE tl = WE at *
      generalize fdDrop (rwF tl) frm = FD at *
      generalize hoE (rwF tl) RV = he at *
      generalize hoB (rwF tl) RV = ho at *
      generalize bodE (rwF tl) rest RV false = BE at *
      generalize bodB (rwF tl) rest RV false = BB at *
      generalize rwF tl = FL at *
      by_cases hRE : RE = 0
      · rw [if_neg (by simp [hRE])] at hE
        subst hRE
        by_cases hWE : WE = 0
        · rw [if_neg (by simp [hWE])] at hE
          subst hWE
          cases ho with
          | false =>
            rw [if_pos rfl] at hE
            obtain rfl : he = 26 := hhe
            have HR := Lib.hid (hbad 26 hE (by decide))
            unfold rq0 at HR
            clear hbad hE hR C5 C6
            go_enter Tryz.func9, Tryz.ntmps9
            go_wp2_with fail
            refine (C1.out _ HB.out).mono ?_
            rintro e w1 ⟨P, A1, n1, c1, rfl, hm1, hP1, hb1⟩
            have HB1 := Lib.hid (below_then HB.out hb1)
            have HZ1 := Lib.hid (zero_still hb1 HZ.out)
            have HM1 := Lib.hid hm1
            have HP := Lib.hid (Nat.lt_of_lt_of_le HLT.out hP1)
            clear hm1 hP1
            obtain ⟨k0, k1, k2, k3, k4, kf⟩ := HM1.out.cells
            clear hb1
            go_wp2_with fail
            refine (C2.out _ HB1.out).mono ?_
            rintro e w2 ⟨rfl, hb2⟩
            have HB2 := Lib.hid (below_then HB1.out hb2)
            have HZ2 := Lib.hid (zero_still hb2 HZ1.out)
            have HM2 := Lib.hid (HM1.out.below hb2)
            clear k0 k1 k2 k3 k4 kf
            obtain ⟨k0, k1, k2, k3, k4, kf⟩ := HM2.out.cells
            have kf2 := kf 2
            clear hb2
            have HM2' := Lib.hid (HM2.out.minor RV)
            have HZ2' := Lib.hid (set_else (P := P) (j := 2) (v := .int .i64 RV) HZ2.out (Nat.ne_of_lt HP.out))
            have HB2' := Lib.hid (HB2.out.setCell (p := ⟨P, 2, none⟩) (Nat.le_of_lt HP.out) (.int .i64 RV))
            go_wp2_with fail
            refine (C3.out _ _ _ _ _ HM2'.out).mono ?_
            rintro e w3 ⟨rfl, hm3, hb3⟩
            have HB3 := Lib.hid (HB2'.out.trans (hb3.mono (Nat.le_of_lt HP.out)))
            have HZ3 := Lib.hid ((hb3.block _ HP.out).trans HZ2'.out)
            clear hb3
            obtain ⟨v3, hm3⟩ := hm3 (by trivial)
            obtain ⟨A3, c3, rfl, hF3⟩ := hm3.own.slf HMX.out
            have HM3 := Lib.hid hm3
            have HF3 := Lib.hid hF3
            obtain ⟨l0, l1, l2, l3, l4, lf⟩ := HM3.out.cells
            clear hm3 hF3 k0 k1 k2 k3 k4 kf kf2
            have HB3 := Lib.hid HB3.out.drew
            have HZ3 : Hid (w3.drew.heap[w.heap.size]? = _) := HZ3
            have HM3 := Lib.hid HM3.out.drew
            have HF3 := Lib.hid HF3.out.drew
            have HC3 : Hid (w3.drew.cell? ⟨P, 3, none⟩ = some (.slice A3 FL.length c3) ∧ w3.drew.cell? ⟨P, 2, none⟩ = some (.int .i64 RV)) := ⟨l3, l2⟩
            go_wp2_with fail
            go_region_held3 (fun W => W.cell? ⟨P, 3, none⟩ = some (.slice A3 FL.length c3) ∧ W.cell? ⟨P, 2, none⟩ = some (.int .i64 RV)) (first | go_keep | exact HC3.out) (first
              | (go_at_call 30; refine (C4.out _ _ _ HF3.out).mono ?_; rintro e w4 ⟨rfl, hb4⟩; have HB4 := Lib.hid (below_then HB3.out hb4); have HZ4 := Lib.hid (zero_still hb4 HZ3.out); have HM4 := Lib.hid (HM3.out.below hb4); have HF4 := Lib.hid (HF3.out.below hb4); have HC4 : Hid (w4.cell? ⟨P, 3, none⟩ = some (.slice A3 FL.length c3) ∧ w4.cell? ⟨P, 2, none⟩ = some (.int .i64 RV)) := ⟨cell_kept hb4 HC3.out.1, cell_kept hb4 HC3.out.2⟩; have HC3 := HC4; clear hb4))
            go_wp2_with (refine wpList_store_row rfl _ _ _ rfl w.heap.size #[.string ⟨#[]⟩, .string ⟨#[]⟩, .int .i64 0, .slice none 0 0, .string ⟨#[]⟩] rfl rfl 25 _ HZ4.out (by kernel_rfl) rfl (by simp [Value.oneCell']) ?_)
            refine bodyPost_ret (results_cell_row_tmp rfl _ _ w.heap.size 25 #[.string ⟨#[]⟩, .string ⟨#[]⟩, .int .i64 0, .slice none 0 0, .string ⟨#[]⟩] (0, 0) _ rfl (setRow_heap _ _ _ _ _ _ HZ4.out) Tryz.underlying25 rfl (by kernel_rfl)) rfl ?_
            exact ⟨none, 0, by rw [HR.out.1, HR.out.2]; rfl, by rw [HR.out.2]; exact SlF.none_ _, FreshA.none_ _, below_setRow HB4.out (Nat.le_refl _) _⟩
          | true =>
            rw [if_neg (by simp)] at hE
            obtain rfl : he = 0 := hhe
            by_cases hBE : BE = 0
            · have HR : Hid (PE = 0 ∧ PR = ⟨RA, RB, RV, FD, BB⟩) := ⟨hE.trans hBE, hR (hE.trans hBE)⟩
              subst hBE
              clear hbad hE hR
              go_enter Tryz.func9, Tryz.ntmps9
              go_wp2_with fail
              refine (C1.out _ HB.out).mono ?_
              rintro e w1 ⟨P, A1, n1, c1, rfl, hm1, hP1, hb1⟩
              have HB1 := Lib.hid (below_then HB.out hb1)
              have HZ1 := Lib.hid (zero_still hb1 HZ.out)
              have HM1 := Lib.hid hm1
              have HP := Lib.hid (Nat.lt_of_lt_of_le HLT.out hP1)
              clear hm1 hP1
              obtain ⟨k0, k1, k2, k3, k4, kf⟩ := HM1.out.cells
              clear hb1
              go_wp2_with fail
              refine (C2.out _ HB1.out).mono ?_
              rintro e w2 ⟨rfl, hb2⟩
              have HB2 := Lib.hid (below_then HB1.out hb2)
              have HZ2 := Lib.hid (zero_still hb2 HZ1.out)
              have HM2 := Lib.hid (HM1.out.below hb2)
              clear k0 k1 k2 k3 k4 kf
              obtain ⟨k0, k1, k2, k3, k4, kf⟩ := HM2.out.cells
              have kf2 := kf 2
              clear hb2
              have HM2' := Lib.hid (HM2.out.minor RV)
              have HZ2' := Lib.hid (set_else (P := P) (j := 2) (v := .int .i64 RV) HZ2.out (Nat.ne_of_lt HP.out))
              have HB2' := Lib.hid (HB2.out.setCell (p := ⟨P, 2, none⟩) (Nat.le_of_lt HP.out) (.int .i64 RV))
              go_wp2_with fail
              refine (C3.out _ _ _ _ _ HM2'.out).mono ?_
              rintro e w3 ⟨rfl, hm3, hb3⟩
              have HB3 := Lib.hid (HB2'.out.trans (hb3.mono (Nat.le_of_lt HP.out)))
              have HZ3 := Lib.hid ((hb3.block _ HP.out).trans HZ2'.out)
              clear hb3
              obtain ⟨v3, hm3⟩ := hm3 (by trivial)
              obtain ⟨A3, c3, rfl, hF3⟩ := hm3.own.slf HMX.out
              have HM3 := Lib.hid hm3
              have HF3 := Lib.hid hF3
              obtain ⟨l0, l1, l2, l3, l4, lf⟩ := HM3.out.cells
              clear hm3 hF3 k0 k1 k2 k3 k4 kf kf2
              have HB3 := Lib.hid HB3.out.drew
              have HZ3 : Hid (w3.drew.heap[w.heap.size]? = _) := HZ3
              have HM3 := Lib.hid HM3.out.drew
              have HF3 := Lib.hid HF3.out.drew
              have HC3 : Hid (w3.drew.cell? ⟨P, 3, none⟩ = some (.slice A3 FL.length c3) ∧ w3.drew.cell? ⟨P, 2, none⟩ = some (.int .i64 RV)) := ⟨l3, l2⟩
              go_wp2_with fail
              go_region_held3 (fun W => W.cell? ⟨P, 3, none⟩ = some (.slice A3 FL.length c3) ∧ W.cell? ⟨P, 2, none⟩ = some (.int .i64 RV)) (first | go_keep | exact HC3.out) (first
                | (go_at_call 30; refine (C4.out _ _ _ HF3.out).mono ?_; rintro e w4 ⟨rfl, hb4⟩; have HB4 := Lib.hid (below_then HB3.out hb4); have HZ4 := Lib.hid (zero_still hb4 HZ3.out); have HM4 := Lib.hid (HM3.out.below hb4); have HF4 := Lib.hid (HF3.out.below hb4); have HC4 : Hid (w4.cell? ⟨P, 3, none⟩ = some (.slice A3 FL.length c3) ∧ w4.cell? ⟨P, 2, none⟩ = some (.int .i64 RV)) := ⟨cell_kept hb4 HC3.out.1, cell_kept hb4 HC3.out.2⟩; have HC3 := HC4; clear hb4))
              go_wp2_with fail
              refine (C5.out _ _ _ _ _ _ _ HB4.out HM4.out HF4.out).mono ?_
              rintro e w5 ⟨rfl, hb5⟩
              have HB5 := Lib.hid (below_then HB4.out hb5)
              have HZ5 := Lib.hid (zero_still hb5 HZ4.out)
              have HF5 := Lib.hid (HF4.out.below hb5)
              have m3 := cell_kept hb5 (HM4.out.cells.2.2.2.1)
              clear hb5
              go_wp2_with fail
              refine (C6.out _ _ _ HF5.out).mono ?_
              rintro e w7 ⟨v7, rfl, ho7, hb7⟩
              have HB7 := Lib.hid (below_then HB5.out hb7)
              have HZ7 := Lib.hid (zero_still hb7 HZ5.out)
              obtain ⟨A7, c7, rfl, hA7⟩ := ho7.slf HSZ.out
              have HO7 := Lib.hid ho7
              have hlt6 := (Array.getElem?_eq_some_iff.1 HZ5.out).1
              clear ho7 hA7 hb7
              go_wp2_with (refine wpList_store_row rfl _ _ _ rfl w.heap.size #[.string RA, .string RB, .int .i64 RV, .slice A7 FD.length c7, .string BB] rfl rfl 25 _ HZ7.out (by kernel_rfl) rfl (by simp [Value.oneCell']) ?_)
              refine bodyPost_ret (results_cell_row_tmp rfl _ _ w.heap.size 25 #[.string RA, .string RB, .int .i64 RV, .slice A7 FD.length c7, .string BB] (0, 0) _ rfl (setRow_heap _ _ _ _ _ _ HZ7.out) Tryz.underlying25 rfl (by kernel_rfl)) rfl ?_
              obtain ⟨A8, c8, he8, hF8⟩ := (HO7.out.setRow hlt6 #[.string RA, .string RB, .int .i64 RV, .slice A7 FD.length c7, .string BB]).slf HSZ.out
              cases he8
              exact ⟨_, _, by rw [HR.out.1, HR.out.2]; rfl, by rw [HR.out.2]; exact hF8, fun ad ha => Nat.le_trans HB5.out.size (HO7.out.fresh ad ha), below_setRow HB7.out (Nat.le_refl _) _⟩
            · have HR := Lib.hid (hbad BE hE hBE)
              unfold rq0 at HR
              clear hbad hE hR C6
              go_enter Tryz.func9, Tryz.ntmps9
              go_wp2_with fail
              refine (C1.out _ HB.out).mono ?_
              rintro e w1 ⟨P, A1, n1, c1, rfl, hm1, hP1, hb1⟩
              have HB1 := Lib.hid (below_then HB.out hb1)
              have HZ1 := Lib.hid (zero_still hb1 HZ.out)
              have HM1 := Lib.hid hm1
              have HP := Lib.hid (Nat.lt_of_lt_of_le HLT.out hP1)
              clear hm1 hP1
              obtain ⟨k0, k1, k2, k3, k4, kf⟩ := HM1.out.cells
              clear hb1
              go_wp2_with fail
              refine (C2.out _ HB1.out).mono ?_
              rintro e w2 ⟨rfl, hb2⟩
              have HB2 := Lib.hid (below_then HB1.out hb2)
              have HZ2 := Lib.hid (zero_still hb2 HZ1.out)
              have HM2 := Lib.hid (HM1.out.below hb2)
              clear k0 k1 k2 k3 k4 kf
              obtain ⟨k0, k1, k2, k3, k4, kf⟩ := HM2.out.cells
              have kf2 := kf 2
              clear hb2
              have HM2' := Lib.hid (HM2.out.minor RV)
              have HZ2' := Lib.hid (set_else (P := P) (j := 2) (v := .int .i64 RV) HZ2.out (Nat.ne_of_lt HP.out))
              have HB2' := Lib.hid (HB2.out.setCell (p := ⟨P, 2, none⟩) (Nat.le_of_lt HP.out) (.int .i64 RV))
              go_wp2_with fail
              refine (C3.out _ _ _ _ _ HM2'.out).mono ?_
              rintro e w3 ⟨rfl, hm3, hb3⟩
              have HB3 := Lib.hid (HB2'.out.trans (hb3.mono (Nat.le_of_lt HP.out)))
              have HZ3 := Lib.hid ((hb3.block _ HP.out).trans HZ2'.out)
              clear hb3
              obtain ⟨v3, hm3⟩ := hm3 (by trivial)
              obtain ⟨A3, c3, rfl, hF3⟩ := hm3.own.slf HMX.out
              have HM3 := Lib.hid hm3
              have HF3 := Lib.hid hF3
              obtain ⟨l0, l1, l2, l3, l4, lf⟩ := HM3.out.cells
              clear hm3 hF3 k0 k1 k2 k3 k4 kf kf2
              have HB3 := Lib.hid HB3.out.drew
              have HZ3 : Hid (w3.drew.heap[w.heap.size]? = _) := HZ3
              have HM3 := Lib.hid HM3.out.drew
              have HF3 := Lib.hid HF3.out.drew
              have HC3 : Hid (w3.drew.cell? ⟨P, 3, none⟩ = some (.slice A3 FL.length c3) ∧ w3.drew.cell? ⟨P, 2, none⟩ = some (.int .i64 RV)) := ⟨l3, l2⟩
              go_wp2_with fail
              go_region_held3 (fun W => W.cell? ⟨P, 3, none⟩ = some (.slice A3 FL.length c3) ∧ W.cell? ⟨P, 2, none⟩ = some (.int .i64 RV)) (first | go_keep | exact HC3.out) (first
                | (go_at_call 30; refine (C4.out _ _ _ HF3.out).mono ?_; rintro e w4 ⟨rfl, hb4⟩; have HB4 := Lib.hid (below_then HB3.out hb4); have HZ4 := Lib.hid (zero_still hb4 HZ3.out); have HM4 := Lib.hid (HM3.out.below hb4); have HF4 := Lib.hid (HF3.out.below hb4); have HC4 : Hid (w4.cell? ⟨P, 3, none⟩ = some (.slice A3 FL.length c3) ∧ w4.cell? ⟨P, 2, none⟩ = some (.int .i64 RV)) := ⟨cell_kept hb4 HC3.out.1, cell_kept hb4 HC3.out.2⟩; have HC3 := HC4; clear hb4))
              go_wp2_with fail
              refine (C5.out _ _ _ _ _ _ _ HB4.out HM4.out HF4.out).mono ?_
              rintro e w5 ⟨rfl, hb5⟩
              have HB5 := Lib.hid (below_then HB4.out hb5)
              have HZ5 := Lib.hid (zero_still hb5 HZ4.out)
              have HF5 := Lib.hid (HF4.out.below hb5)
              have m3 := cell_kept hb5 (HM4.out.cells.2.2.2.1)
              clear hb5
              go_wp2_with (refine wpList_store_row rfl _ _ _ rfl w.heap.size #[.string ⟨#[]⟩, .string ⟨#[]⟩, .int .i64 0, .slice none 0 0, .string ⟨#[]⟩] rfl rfl 25 _ HZ5.out (by kernel_rfl) rfl (by simp [Value.oneCell']) ?_)
              refine bodyPost_ret (results_cell_row_tmp rfl _ _ w.heap.size 25 #[.string ⟨#[]⟩, .string ⟨#[]⟩, .int .i64 0, .slice none 0 0, .string ⟨#[]⟩] (0, 0) _ rfl (setRow_heap _ _ _ _ _ _ HZ5.out) Tryz.underlying25 rfl (by kernel_rfl)) rfl ?_
              exact ⟨none, 0, by rw [HR.out.1, HR.out.2]; rfl, by rw [HR.out.2]; exact SlF.none_ _, FreshA.none_ _, below_setRow HB5.out (Nat.le_refl _) _⟩
        · rw [if_pos (by simpa using hWE)] at hE
          have HR := Lib.hid (hbad WE hE hWE)
          unfold rq0 at HR
          clear hbad hE hR C4 C5 C6 hhe
          go_enter Tryz.func9, Tryz.ntmps9
          go_wp2_with fail
          refine (C1.out _ HB.out).mono ?_
          rintro e w1 ⟨P, A1, n1, c1, rfl, hm1, hP1, hb1⟩
          have HB1 := Lib.hid (below_then HB.out hb1)
          have HZ1 := Lib.hid (zero_still hb1 HZ.out)
          have HM1 := Lib.hid hm1
          have HP := Lib.hid (Nat.lt_of_lt_of_le HLT.out hP1)
          clear hm1 hP1
          obtain ⟨k0, k1, k2, k3, k4, kf⟩ := HM1.out.cells
          clear hb1
          go_wp2_with fail
          refine (C2.out _ HB1.out).mono ?_
          rintro e w2 ⟨rfl, hb2⟩
          have HB2 := Lib.hid (below_then HB1.out hb2)
          have HZ2 := Lib.hid (zero_still hb2 HZ1.out)
          have HM2 := Lib.hid (HM1.out.below hb2)
          clear k0 k1 k2 k3 k4 kf
          obtain ⟨k0, k1, k2, k3, k4, kf⟩ := HM2.out.cells
          have kf2 := kf 2
          clear hb2
          have HM2' := Lib.hid (HM2.out.minor RV)
          have HZ2' := Lib.hid (set_else (P := P) (j := 2) (v := .int .i64 RV) HZ2.out (Nat.ne_of_lt HP.out))
          have HB2' := Lib.hid (HB2.out.setCell (p := ⟨P, 2, none⟩) (Nat.le_of_lt HP.out) (.int .i64 RV))
          go_wp2_with fail
          refine (C3.out _ _ _ _ _ HM2'.out).mono ?_
          rintro e w3 ⟨rfl, hm3, hb3⟩
          have HB3 := Lib.hid (HB2'.out.trans (hb3.mono (Nat.le_of_lt HP.out)))
          have HZ3 := Lib.hid ((hb3.block _ HP.out).trans HZ2'.out)
          clear hb3
          go_wp2_with (refine wpList_store_row rfl _ _ _ rfl w.heap.size #[.string ⟨#[]⟩, .string ⟨#[]⟩, .int .i64 0, .slice none 0 0, .string ⟨#[]⟩] rfl rfl 25 _ HZ3.out (by kernel_rfl) rfl (by simp [Value.oneCell']) ?_)
          refine bodyPost_ret (results_cell_row_tmp rfl _ _ w.heap.size 25 #[.string ⟨#[]⟩, .string ⟨#[]⟩, .int .i64 0, .slice none 0 0, .string ⟨#[]⟩] (0, 0) _ rfl (setRow_heap _ _ _ _ _ _ HZ3.out) Tryz.underlying25 rfl (by kernel_rfl)) rfl ?_
          exact ⟨none, 0, by rw [HR.out.1, HR.out.2]; rfl, by rw [HR.out.2]; exact SlF.none_ _, FreshA.none_ _, below_setRow HB3.out (Nat.le_refl _) _⟩
      · rw [if_pos (by simpa using hRE)] at hE
        have HR := Lib.hid (hbad RE hE hRE)
        unfold rq0 at HR
        clear hbad hE hR C3 C4 C5 C6 hhe
        go_enter Tryz.func9, Tryz.ntmps9
        go_wp2_with fail
        refine (C1.out _ HB.out).mono ?_
        rintro e w1 ⟨P, A1, n1, c1, rfl, hm1, hP1, hb1⟩
        have HB1 := Lib.hid (below_then HB.out hb1)
        have HZ1 := Lib.hid (zero_still hb1 HZ.out)
        have HM1 := Lib.hid hm1
        have HP := Lib.hid (Nat.lt_of_lt_of_le HLT.out hP1)
        clear hm1 hP1
        obtain ⟨k0, k1, k2, k3, k4, kf⟩ := HM1.out.cells
        clear hb1
        go_wp2_with fail
        refine (C2.out _ HB1.out).mono ?_
        rintro e w2 ⟨rfl, hb2⟩
        have HB2 := Lib.hid (below_then HB1.out hb2)
        have HZ2 := Lib.hid (zero_still hb2 HZ1.out)
        have HM2 := Lib.hid (HM1.out.below hb2)
        clear k0 k1 k2 k3 k4 kf
        obtain ⟨k0, k1, k2, k3, k4, kf⟩ := HM2.out.cells
        have kf2 := kf 2
        clear hb2
        go_wp2_with (refine wpList_store_row rfl _ _ _ rfl w.heap.size #[.string ⟨#[]⟩, .string ⟨#[]⟩, .int .i64 0, .slice none 0 0, .string ⟨#[]⟩] rfl rfl 25 _ HZ2.out (by kernel_rfl) rfl (by simp [Value.oneCell']) ?_)
        refine bodyPost_ret (results_cell_row_tmp rfl _ _ w.heap.size 25 #[.string ⟨#[]⟩, .string ⟨#[]⟩, .int .i64 0, .slice none 0 0, .string ⟨#[]⟩] (0, 0) _ rfl (setRow_heap _ _ _ _ _ _ HZ2.out) Tryz.underlying25 rfl (by kernel_rfl)) rfl ?_
        exact ⟨none, 0, by rw [HR.out.1, HR.out.2]; rfl, by rw [HR.out.2]; exact SlF.none_ _, FreshA.none_ _, below_setRow HB2.out (Nat.le_refl _) _⟩

set_option maxHeartbeats 32000000 in
set_option maxRecDepth 100000 in
theorem msgP_any (raw meth : ByteArray) (w : World) (hs : raw.size ≤ 1000000) (HT : MsgTabs w) :
    Calls Tryz.prog 12 #[.string raw, .string meth] w (IsRp w (ppR raw meth) (ppE raw meth)) := by
  have HZ : Hid ((w.alloc (.cells #[.int .i64 0, .string ⟨#[]⟩, .int .i64 0, .slice none 0 0, .string ⟨#[]⟩] 34)).heap[w.heap.size]? = some (.cells #[.int .i64 0, .string ⟨#[]⟩, .int .i64 0, .slice none 0 0, .string ⟨#[]⟩] 34 (0, 0))) := heap_alloc_new w _
  have hb0 : Below w.heap.size w (w.alloc (.cells #[.int .i64 0, .string ⟨#[]⟩, .int .i64 0, .slice none 0 0, .string ⟨#[]⟩] 34)) := (Below.refl _ _).alloc (Nat.le_refl _) _
  have HB := Lib.hid hb0
  have HLT := Lib.hid (show w.heap.size < (w.alloc (.cells #[.int .i64 0, .string ⟨#[]⟩, .int .i64 0, .slice none 0 0, .string ⟨#[]⟩] 34)).heap.size by simp)
  have hbad := fun (k : Int) (h : ppE raw meth = k) (hk : k ≠ 0) => pp_bad h hk
  have hE : ppE raw meth = if 65536 < raw.size then 4 else if hdB raw = false then 5 else if stE (l1S raw) ≠ 0 then stE (l1S raw) else if stN (l1S raw) < 200 then 20 else if rsE raw ≠ 0 then rsE raw
      else if heB meth (stN (l1S raw)) then (if (hdR raw).size = 0 then 0 else 22) else bodE (rsF raw) (hdR raw) (stV' (l1S raw)) true := rfl
  have hR : ppE raw meth = 0 → ppR raw meth = ⟨stN (l1S raw), stB (l1S raw), stV' (l1S raw), fdDrop (rsF raw) frm, if heB meth (stN (l1S raw)) then ⟨#[]⟩ else bodB (rsF raw) (hdR raw) (stV' (l1S raw)) true⟩ := fun h => by unfold ppR; rw [if_pos h]
  by_cases hl : 65536 < raw.size
  · rw [if_pos hl] at hE
    have HR := Lib.hid (hbad 4 hE (by decide))
    unfold rp0 at HR
    have C0 := Lib.hid (fun W (_ : Below w.heap.size w W) => divide_long raw W hl)
    generalize ppE raw meth = PE at *
    generalize ppR raw meth = PR at *
    clear hbad hE hR hl HT hb0
    go_enter Tryz.func12, Tryz.ntmps12
    go_wp2_with fail
    refine (C0.out _ HB.out).mono ?_
    rintro e w1 ⟨rfl, hb1⟩
    have HB1 := Lib.hid (below_then HB.out hb1)
    have HZ1 := Lib.hid (zero_still hb1 HZ.out)
    clear hb1
    go_wp2_with (refine wpList_store_row rfl _ _ _ rfl w.heap.size #[.int .i64 0, .string ⟨#[]⟩, .int .i64 0, .slice none 0 0, .string ⟨#[]⟩] rfl rfl 34 _ HZ1.out (by kernel_rfl) rfl (by simp [Value.oneCell']) ?_)
    refine bodyPost_ret (results_cell_row_tmp rfl _ _ w.heap.size 34 #[.int .i64 0, .string ⟨#[]⟩, .int .i64 0, .slice none 0 0, .string ⟨#[]⟩] (0, 0) _ rfl (setRow_heap _ _ _ _ _ _ HZ1.out) Tryz.underlying34 rfl (by kernel_rfl)) rfl ?_
    exact ⟨none, 0, by rw [HR.out.1, HR.out.2]; rfl, by rw [HR.out.2]; exact SlF.none_ _, FreshA.none_ _, below_setRow HB1.out (Nat.le_refl _) _⟩
  · rw [if_neg hl] at hE
    obtain ⟨g1, g2, g3⟩ := hd_le raw
    by_cases hb : hdB raw = false
    · rw [if_pos hb] at hE
      have HR := Lib.hid (hbad 5 hE (by decide))
      unfold rp0 at HR
      have C0 := Lib.hid (fun W (hW : Below w.heap.size w W) => divide_bad raw W hl (HT.kept hW).chk hb)
      generalize ppE raw meth = PE at *
      generalize ppR raw meth = PR at *
      clear hbad hE hR hl HT hb hb0
      go_enter Tryz.func12, Tryz.ntmps12
      go_wp2_with fail
      refine (C0.out _ HB.out).mono ?_
      rintro e w1 ⟨rfl, hb1⟩
      have HB1 := Lib.hid (below_then HB.out hb1)
      have HZ1 := Lib.hid (zero_still hb1 HZ.out)
      clear hb1
      go_wp2_with (refine wpList_store_row rfl _ _ _ rfl w.heap.size #[.int .i64 0, .string ⟨#[]⟩, .int .i64 0, .slice none 0 0, .string ⟨#[]⟩] rfl rfl 34 _ HZ1.out (by kernel_rfl) rfl (by simp [Value.oneCell']) ?_)
      refine bodyPost_ret (results_cell_row_tmp rfl _ _ w.heap.size 34 #[.int .i64 0, .string ⟨#[]⟩, .int .i64 0, .slice none 0 0, .string ⟨#[]⟩] (0, 0) _ rfl (setRow_heap _ _ _ _ _ _ HZ1.out) Tryz.underlying34 rfl (by kernel_rfl)) rfl ?_
      exact ⟨none, 0, by rw [HR.out.1, HR.out.2]; rfl, by rw [HR.out.2]; exact SlF.none_ _, FreshA.none_ _, below_setRow HB1.out (Nat.le_refl _) _⟩
    · rw [if_neg hb] at hE
      have hb' : hdB raw = true := by simpa using hb
      obtain ⟨x, tl, hx⟩ := hd_cons hb'
      have C1 := Lib.hid (fun W (hW : Below w.heap.size w W) => divide_good raw W hl (HT.kept hW).chk hb' x tl hx)
      have e1 : l1S raw = mkS x := by unfold l1S; rw [hx]; rfl
      have e2 : rsF raw = rwF tl := by unfold rsF; rw [hx]; rfl
      have e3 : rsE raw = rwE tl := by unfold rsE; rw [hx]; rfl
      rw [e1, e2, e3] at hE
      rw [e1, e2] at hR
      rw [hx] at g3 g2
      have gx := g3 x (List.mem_cons_self ..)
      have gt : ∀ y ∈ tl, y.length ≤ 1000000 := fun y hy => Nat.le_trans (g3 y (List.mem_cons_of_mem _ hy)) hs
      rw [List.length_cons] at g2
      have hms : (mkS x).size ≤ maxLen := by rw [mkS_size]; have : (1000000 : Nat) ≤ maxLen := by decide
                                             omega
      have C2 := Lib.hid (fun W (hW : Below w.heap.size w W) => mstatus_any (mkS x) W hms (HT.kept hW).lin)
      unfold Dvd at C1
      generalize mkS x = ms at *
      have C3 := Lib.hid (fun W P' A' n' c' (hW : Msg W P' ms A' n' c' tl (stV' ms) (.slice none 0 0) [] (hdR raw)) => read_any W P' ms A' n' c' tl (stV' ms) (hdR raw) hW (by omega) gt)
      have gf := rw_bd gt
      have gl := rw_few tl
      have HMX := Lib.hid (rw_mx gt)
      have HSZ := Lib.hid (fdDrop_sz (N := frm) (rwF_sz gt))
      have CB := Lib.hid (fun W => bodl_any (stN ms) W)
      have C5 := Lib.hid (fun W P' A' n' c' A2' c2' (hW : Below w.heap.size w W) (hM : Msg W P' ms A' n' c' tl (stV' ms) (.slice A2' (rwF tl).length c2') (rwF tl) (hdR raw)) (hF : SlF W A2' (rwF tl).length c2' (rwF tl)) => replyBody_any W P' ms A' n' c' tl (stV' ms) A2' c2' (rwF tl) (hdR raw) (heB meth (stN ms)) hM hF (by omega) gf (by omega) (HT.kept hW).chk)
      have C6 := Lib.hid (fun W A' c' (hW : SlF W A' (rwF tl).length c' (rwF tl)) => unframe_any A' _ c' (rwF tl) W hW (by omega) gf)
      have hbe : (if heB meth (stN ms) then (if (hdR raw).size = 0 then (0 : Int) else 22) else bodE (rwF tl) (hdR raw) (stV' ms) true) = rbE (rwF tl) (hdR raw) (stV' ms) (heB meth (stN ms)) := rfl
      have hbb : (if heB meth (stN ms) then (⟨#[]⟩ : ByteArray) else bodB (rwF tl) (hdR raw) (stV' ms) true) = rbB (rwF tl) (hdR raw) (stV' ms) (heB meth (stN ms)) := rfl
      rw [hbe] at hE
      rw [hbb] at hR
      have hme : mstE ms = if stE ms ≠ 0 then stE ms else if stN ms < 200 then 20 else 0 := rfl
      have hhe : heB meth (stN ms) = ((meth.toList == [72, 69, 65, 68]) || bodL (stN ms)) := rfl
      clear e1 e2 e3 hx g1 g2 g3 gx gt gf gl hms hb hb' hl HT hb0 hbe hbb
      generalize ppE raw meth = PE at *
      generalize ppR raw meth = PR at *
      generalize hdR raw = rest at *
      generalize mstE ms = ME at *
      generalize stE ms = RE at *
      generalize heB meth (stN ms) = si at *
      generalize bodL (stN ms) = bl at *
      generalize stN ms = RA at *
      generalize stB ms = RB at *
      generalize stV' ms = RV at *
      generalize rwE tl = WE at *
      generalize fdDrop (rwF tl) frm = FD at *
      generalize rbE (rwF tl) rest RV si = BE at *
      generalize rbB (rwF tl) rest RV si = BB at *
      generalize rwF tl = FL at *
      by_cases hRE : RE = 0
      · rw [if_neg (by simp [hRE])] at hE
        rw [if_neg (by simp [hRE])] at hme
        clear hRE
        by_cases hN : RA < 200
        · rw [if_pos hN] at hE
          rw [if_pos hN] at hme
          subst hme
          have HR := Lib.hid (hbad 20 hE (by decide))
          unfold rp0 at HR
          clear hbad hE hR C3 CB C5 C6 hhe hN
          go_enter Tryz.func12, Tryz.ntmps12
          go_wp2_with fail
          refine (C1.out _ HB.out).mono ?_
          rintro e w1 ⟨P, A1, n1, c1, rfl, hm1, hP1, hb1⟩
          have HB1 := Lib.hid (below_then HB.out hb1)
          have HZ1 := Lib.hid (zero_still hb1 HZ.out)
          have HM1 := Lib.hid hm1
          have HP := Lib.hid (Nat.lt_of_lt_of_le HLT.out hP1)
          clear hm1 hP1
          obtain ⟨k0, k1, k2, k3, k4, kf⟩ := HM1.out.cells
          clear hb1
          go_wp2_with fail
          refine (C2.out _ HB1.out).mono ?_
          rintro e w2 ⟨sn, sr, sv, rfl, hsv, hb2⟩
          have HB2 := Lib.hid (below_then HB1.out hb2)
          have HZ2 := Lib.hid (zero_still hb2 HZ1.out)
          have HM2 := Lib.hid (HM1.out.below hb2)
          clear k0 k1 k2 k3 k4 kf
          obtain ⟨k0, k1, k2, k3, k4, kf⟩ := HM2.out.cells
          have kf2 := kf 2
          clear hb2
          go_wp2_with (refine wpList_store_row rfl _ _ _ rfl w.heap.size #[.int .i64 0, .string ⟨#[]⟩, .int .i64 0, .slice none 0 0, .string ⟨#[]⟩] rfl rfl 34 _ HZ2.out (by kernel_rfl) rfl (by simp [Value.oneCell']) ?_)
          refine bodyPost_ret (results_cell_row_tmp rfl _ _ w.heap.size 34 #[.int .i64 0, .string ⟨#[]⟩, .int .i64 0, .slice none 0 0, .string ⟨#[]⟩] (0, 0) _ rfl (setRow_heap _ _ _ _ _ _ HZ2.out) Tryz.underlying34 rfl (by kernel_rfl)) rfl ?_
          exact ⟨none, 0, by rw [HR.out.1, HR.out.2]; rfl, by rw [HR.out.2]; exact SlF.none_ _, FreshA.none_ _, below_setRow HB2.out (Nat.le_refl _) _⟩
        · rw [if_neg hN] at hE
          rw [if_neg hN] at hme
          subst hme
          clear hN
          by_cases hWE : WE = 0
          · rw [if_neg (by simp [hWE])] at hE
            subst hWE
            by_cases hBE : BE = 0
            · have HR : Hid (PE = 0 ∧ PR = ⟨RA, RB, RV, FD, BB⟩) := ⟨hE.trans hBE, hR (hE.trans hBE)⟩
              subst hBE
              clear hbad hE hR
              cases hme : (meth.toList == [72, 69, 65, 68]) with
              | true =>
                rw [hme] at hhe
                obtain rfl : si = true := hhe
                clear CB
                go_enter Tryz.func12, Tryz.ntmps12
                go_wp2_with fail
                refine (C1.out _ HB.out).mono ?_
                rintro e w1 ⟨P, A1, n1, c1, rfl, hm1, hP1, hb1⟩
                have HB1 := Lib.hid (below_then HB.out hb1)
                have HZ1 := Lib.hid (zero_still hb1 HZ.out)
                have HM1 := Lib.hid hm1
                have HP := Lib.hid (Nat.lt_of_lt_of_le HLT.out hP1)
                clear hm1 hP1
                obtain ⟨k0, k1, k2, k3, k4, kf⟩ := HM1.out.cells
                clear hb1
                go_wp2_with fail
                refine (C2.out _ HB1.out).mono ?_
                rintro e w2 ⟨sn, sr, sv, rfl, hsv, hb2⟩
                have HB2 := Lib.hid (below_then HB1.out hb2)
                have HZ2 := Lib.hid (zero_still hb2 HZ1.out)
                have HM2 := Lib.hid (HM1.out.below hb2)
                clear k0 k1 k2 k3 k4 kf
                obtain ⟨k0, k1, k2, k3, k4, kf⟩ := HM2.out.cells
                have kf2 := kf 2
                clear hb2
                obtain ⟨rfl, rfl, rfl⟩ := hsv (by trivial)
                have HM2' := Lib.hid (HM2.out.minor RV)
                have HZ2' := Lib.hid (set_else (P := P) (j := 2) (v := .int .i64 RV) HZ2.out (Nat.ne_of_lt HP.out))
                have HB2' := Lib.hid (HB2.out.setCell (p := ⟨P, 2, none⟩) (Nat.le_of_lt HP.out) (.int .i64 RV))
                go_wp2_with fail
                refine (C3.out _ _ _ _ _ HM2'.out).mono ?_
                rintro e w3 ⟨rfl, hm3, hb3⟩
                have HB3 := Lib.hid (HB2'.out.trans (hb3.mono (Nat.le_of_lt HP.out)))
                have HZ3 := Lib.hid ((hb3.block _ HP.out).trans HZ2'.out)
                clear hb3
                obtain ⟨v3, hm3⟩ := hm3 (by trivial)
                obtain ⟨A3, c3, rfl, hF3⟩ := hm3.own.slf HMX.out
                have HM3 := Lib.hid hm3
                have HF3 := Lib.hid hF3
                obtain ⟨l0, l1, l2, l3, l4, lf⟩ := HM3.out.cells
                clear hm3 hF3 k0 k1 k2 k3 k4 kf kf2
                go_wp2_with fail
                refine (C5.out _ _ _ _ _ _ _ HB3.out HM3.out HF3.out).mono ?_
                rintro e w5 ⟨rfl, hb5⟩
                have HB5 := Lib.hid (below_then HB3.out hb5)
                have HZ5 := Lib.hid (zero_still hb5 HZ3.out)
                have HF5 := Lib.hid (HF3.out.below hb5)
                have m3 := cell_kept hb5 (HM3.out.cells.2.2.2.1)
                clear hb5
                go_wp2_with fail
                refine (C6.out _ _ _ HF5.out).mono ?_
                rintro e w7 ⟨v7, rfl, ho7, hb7⟩
                have HB7 := Lib.hid (below_then HB5.out hb7)
                have HZ7 := Lib.hid (zero_still hb7 HZ5.out)
                obtain ⟨A7, c7, rfl, hA7⟩ := ho7.slf HSZ.out
                have HO7 := Lib.hid ho7
                have hlt6 := (Array.getElem?_eq_some_iff.1 HZ5.out).1
                clear ho7 hA7 hb7
                go_wp2_with (refine wpList_store_row rfl _ _ _ rfl w.heap.size #[.int .i64 RA, .string RB, .int .i64 RV, .slice A7 FD.length c7, .string BB] rfl rfl 34 _ HZ7.out (by kernel_rfl) rfl (by simp [Value.oneCell']) ?_)
                refine bodyPost_ret (results_cell_row_tmp rfl _ _ w.heap.size 34 #[.int .i64 RA, .string RB, .int .i64 RV, .slice A7 FD.length c7, .string BB] (0, 0) _ rfl (setRow_heap _ _ _ _ _ _ HZ7.out) Tryz.underlying34 rfl (by kernel_rfl)) rfl ?_
                obtain ⟨A8, c8, he8, hF8⟩ := (HO7.out.setRow hlt6 #[.int .i64 RA, .string RB, .int .i64 RV, .slice A7 FD.length c7, .string BB]).slf HSZ.out
                cases he8
                exact ⟨_, _, by rw [HR.out.1, HR.out.2]; rfl, by rw [HR.out.2]; exact hF8, fun ad ha => Nat.le_trans HB5.out.size (HO7.out.fresh ad ha), below_setRow HB7.out (Nat.le_refl _) _⟩
              | false =>
                rw [hme] at hhe
                obtain rfl : si = bl := hhe
                go_enter Tryz.func12, Tryz.ntmps12
                go_wp2_with fail
                refine (C1.out _ HB.out).mono ?_
                rintro e w1 ⟨P, A1, n1, c1, rfl, hm1, hP1, hb1⟩
                have HB1 := Lib.hid (below_then HB.out hb1)
                have HZ1 := Lib.hid (zero_still hb1 HZ.out)
                have HM1 := Lib.hid hm1
                have HP := Lib.hid (Nat.lt_of_lt_of_le HLT.out hP1)
                clear hm1 hP1
                obtain ⟨k0, k1, k2, k3, k4, kf⟩ := HM1.out.cells
                clear hb1
                go_wp2_with fail
                refine (C2.out _ HB1.out).mono ?_
                rintro e w2 ⟨sn, sr, sv, rfl, hsv, hb2⟩
                have HB2 := Lib.hid (below_then HB1.out hb2)
                have HZ2 := Lib.hid (zero_still hb2 HZ1.out)
                have HM2 := Lib.hid (HM1.out.below hb2)
                clear k0 k1 k2 k3 k4 kf
                obtain ⟨k0, k1, k2, k3, k4, kf⟩ := HM2.out.cells
                have kf2 := kf 2
                clear hb2
                obtain ⟨rfl, rfl, rfl⟩ := hsv (by trivial)
                have HM2' := Lib.hid (HM2.out.minor RV)
                have HZ2' := Lib.hid (set_else (P := P) (j := 2) (v := .int .i64 RV) HZ2.out (Nat.ne_of_lt HP.out))
                have HB2' := Lib.hid (HB2.out.setCell (p := ⟨P, 2, none⟩) (Nat.le_of_lt HP.out) (.int .i64 RV))
                go_wp2_with fail
                refine (C3.out _ _ _ _ _ HM2'.out).mono ?_
                rintro e w3 ⟨rfl, hm3, hb3⟩
                have HB3 := Lib.hid (HB2'.out.trans (hb3.mono (Nat.le_of_lt HP.out)))
                have HZ3 := Lib.hid ((hb3.block _ HP.out).trans HZ2'.out)
                clear hb3
                obtain ⟨v3, hm3⟩ := hm3 (by trivial)
                obtain ⟨A3, c3, rfl, hF3⟩ := hm3.own.slf HMX.out
                have HM3 := Lib.hid hm3
                have HF3 := Lib.hid hF3
                obtain ⟨l0, l1, l2, l3, l4, lf⟩ := HM3.out.cells
                clear hm3 hF3 k0 k1 k2 k3 k4 kf kf2
                go_wp2_with fail
                refine (CB.out _).mono ?_
                rintro e w4 ⟨rfl, hb4⟩
                have HB4 := Lib.hid (below_then HB3.out hb4)
                have HZ4 := Lib.hid (zero_still hb4 HZ3.out)
                have HM4 := Lib.hid (HM3.out.below hb4)
                have HF4 := Lib.hid (HF3.out.below hb4)
                clear hb4
                go_wp2_with fail
                refine (C5.out _ _ _ _ _ _ _ HB4.out HM4.out HF4.out).mono ?_
                rintro e w5 ⟨rfl, hb5⟩
                have HB5 := Lib.hid (below_then HB4.out hb5)
                have HZ5 := Lib.hid (zero_still hb5 HZ4.out)
                have HF5 := Lib.hid (HF4.out.below hb5)
                have m3 := cell_kept hb5 (HM4.out.cells.2.2.2.1)
                clear hb5
                go_wp2_with fail
                refine (C6.out _ _ _ HF5.out).mono ?_
                rintro e w7 ⟨v7, rfl, ho7, hb7⟩
                have HB7 := Lib.hid (below_then HB5.out hb7)
                have HZ7 := Lib.hid (zero_still hb7 HZ5.out)
                obtain ⟨A7, c7, rfl, hA7⟩ := ho7.slf HSZ.out
                have HO7 := Lib.hid ho7
                have hlt6 := (Array.getElem?_eq_some_iff.1 HZ5.out).1
                clear ho7 hA7 hb7
                go_wp2_with (refine wpList_store_row rfl _ _ _ rfl w.heap.size #[.int .i64 RA, .string RB, .int .i64 RV, .slice A7 FD.length c7, .string BB] rfl rfl 34 _ HZ7.out (by kernel_rfl) rfl (by simp [Value.oneCell']) ?_)
                refine bodyPost_ret (results_cell_row_tmp rfl _ _ w.heap.size 34 #[.int .i64 RA, .string RB, .int .i64 RV, .slice A7 FD.length c7, .string BB] (0, 0) _ rfl (setRow_heap _ _ _ _ _ _ HZ7.out) Tryz.underlying34 rfl (by kernel_rfl)) rfl ?_
                obtain ⟨A8, c8, he8, hF8⟩ := (HO7.out.setRow hlt6 #[.int .i64 RA, .string RB, .int .i64 RV, .slice A7 FD.length c7, .string BB]).slf HSZ.out
                cases he8
                exact ⟨_, _, by rw [HR.out.1, HR.out.2]; rfl, by rw [HR.out.2]; exact hF8, fun ad ha => Nat.le_trans HB5.out.size (HO7.out.fresh ad ha), below_setRow HB7.out (Nat.le_refl _) _⟩
            · have HR := Lib.hid (hbad BE hE hBE)
              unfold rp0 at HR
              clear hbad hE hR C6
              cases hme : (meth.toList == [72, 69, 65, 68]) with
              | true =>
                rw [hme] at hhe
                obtain rfl : si = true := hhe
                clear CB
                go_enter Tryz.func12, Tryz.ntmps12
                go_wp2_with fail
                refine (C1.out _ HB.out).mono ?_
                rintro e w1 ⟨P, A1, n1, c1, rfl, hm1, hP1, hb1⟩
                have HB1 := Lib.hid (below_then HB.out hb1)
                have HZ1 := Lib.hid (zero_still hb1 HZ.out)
                have HM1 := Lib.hid hm1
                have HP := Lib.hid (Nat.lt_of_lt_of_le HLT.out hP1)
                clear hm1 hP1
                obtain ⟨k0, k1, k2, k3, k4, kf⟩ := HM1.out.cells
                clear hb1
                go_wp2_with fail
                refine (C2.out _ HB1.out).mono ?_
                rintro e w2 ⟨sn, sr, sv, rfl, hsv, hb2⟩
                have HB2 := Lib.hid (below_then HB1.out hb2)
                have HZ2 := Lib.hid (zero_still hb2 HZ1.out)
                have HM2 := Lib.hid (HM1.out.below hb2)
                clear k0 k1 k2 k3 k4 kf
                obtain ⟨k0, k1, k2, k3, k4, kf⟩ := HM2.out.cells
                have kf2 := kf 2
                clear hb2
                obtain ⟨rfl, rfl, rfl⟩ := hsv (by trivial)
                have HM2' := Lib.hid (HM2.out.minor RV)
                have HZ2' := Lib.hid (set_else (P := P) (j := 2) (v := .int .i64 RV) HZ2.out (Nat.ne_of_lt HP.out))
                have HB2' := Lib.hid (HB2.out.setCell (p := ⟨P, 2, none⟩) (Nat.le_of_lt HP.out) (.int .i64 RV))
                go_wp2_with fail
                refine (C3.out _ _ _ _ _ HM2'.out).mono ?_
                rintro e w3 ⟨rfl, hm3, hb3⟩
                have HB3 := Lib.hid (HB2'.out.trans (hb3.mono (Nat.le_of_lt HP.out)))
                have HZ3 := Lib.hid ((hb3.block _ HP.out).trans HZ2'.out)
                clear hb3
                obtain ⟨v3, hm3⟩ := hm3 (by trivial)
                obtain ⟨A3, c3, rfl, hF3⟩ := hm3.own.slf HMX.out
                have HM3 := Lib.hid hm3
                have HF3 := Lib.hid hF3
                obtain ⟨l0, l1, l2, l3, l4, lf⟩ := HM3.out.cells
                clear hm3 hF3 k0 k1 k2 k3 k4 kf kf2
                go_wp2_with fail
                refine (C5.out _ _ _ _ _ _ _ HB3.out HM3.out HF3.out).mono ?_
                rintro e w5 ⟨rfl, hb5⟩
                have HB5 := Lib.hid (below_then HB3.out hb5)
                have HZ5 := Lib.hid (zero_still hb5 HZ3.out)
                have HF5 := Lib.hid (HF3.out.below hb5)
                have m3 := cell_kept hb5 (HM3.out.cells.2.2.2.1)
                clear hb5
                go_wp2_with (refine wpList_store_row rfl _ _ _ rfl w.heap.size #[.int .i64 0, .string ⟨#[]⟩, .int .i64 0, .slice none 0 0, .string ⟨#[]⟩] rfl rfl 34 _ HZ5.out (by kernel_rfl) rfl (by simp [Value.oneCell']) ?_)
                refine bodyPost_ret (results_cell_row_tmp rfl _ _ w.heap.size 34 #[.int .i64 0, .string ⟨#[]⟩, .int .i64 0, .slice none 0 0, .string ⟨#[]⟩] (0, 0) _ rfl (setRow_heap _ _ _ _ _ _ HZ5.out) Tryz.underlying34 rfl (by kernel_rfl)) rfl ?_
                exact ⟨none, 0, by rw [HR.out.1, HR.out.2]; rfl, by rw [HR.out.2]; exact SlF.none_ _, FreshA.none_ _, below_setRow HB5.out (Nat.le_refl _) _⟩
              | false =>
                rw [hme] at hhe
                obtain rfl : si = bl := hhe
                go_enter Tryz.func12, Tryz.ntmps12
                go_wp2_with fail
                refine (C1.out _ HB.out).mono ?_
                rintro e w1 ⟨P, A1, n1, c1, rfl, hm1, hP1, hb1⟩
                have HB1 := Lib.hid (below_then HB.out hb1)
                have HZ1 := Lib.hid (zero_still hb1 HZ.out)
                have HM1 := Lib.hid hm1
                have HP := Lib.hid (Nat.lt_of_lt_of_le HLT.out hP1)
                clear hm1 hP1
                obtain ⟨k0, k1, k2, k3, k4, kf⟩ := HM1.out.cells
                clear hb1
                go_wp2_with fail
                refine (C2.out _ HB1.out).mono ?_
                rintro e w2 ⟨sn, sr, sv, rfl, hsv, hb2⟩
                have HB2 := Lib.hid (below_then HB1.out hb2)
                have HZ2 := Lib.hid (zero_still hb2 HZ1.out)
                have HM2 := Lib.hid (HM1.out.below hb2)
                clear k0 k1 k2 k3 k4 kf
                obtain ⟨k0, k1, k2, k3, k4, kf⟩ := HM2.out.cells
                have kf2 := kf 2
                clear hb2
                obtain ⟨rfl, rfl, rfl⟩ := hsv (by trivial)
                have HM2' := Lib.hid (HM2.out.minor RV)
                have HZ2' := Lib.hid (set_else (P := P) (j := 2) (v := .int .i64 RV) HZ2.out (Nat.ne_of_lt HP.out))
                have HB2' := Lib.hid (HB2.out.setCell (p := ⟨P, 2, none⟩) (Nat.le_of_lt HP.out) (.int .i64 RV))
                go_wp2_with fail
                refine (C3.out _ _ _ _ _ HM2'.out).mono ?_
                rintro e w3 ⟨rfl, hm3, hb3⟩
                have HB3 := Lib.hid (HB2'.out.trans (hb3.mono (Nat.le_of_lt HP.out)))
                have HZ3 := Lib.hid ((hb3.block _ HP.out).trans HZ2'.out)
                clear hb3
                obtain ⟨v3, hm3⟩ := hm3 (by trivial)
                obtain ⟨A3, c3, rfl, hF3⟩ := hm3.own.slf HMX.out
                have HM3 := Lib.hid hm3
                have HF3 := Lib.hid hF3
                obtain ⟨l0, l1, l2, l3, l4, lf⟩ := HM3.out.cells
                clear hm3 hF3 k0 k1 k2 k3 k4 kf kf2
                go_wp2_with fail
                refine (CB.out _).mono ?_
                rintro e w4 ⟨rfl, hb4⟩
                have HB4 := Lib.hid (below_then HB3.out hb4)
                have HZ4 := Lib.hid (zero_still hb4 HZ3.out)
                have HM4 := Lib.hid (HM3.out.below hb4)
                have HF4 := Lib.hid (HF3.out.below hb4)
                clear hb4
                go_wp2_with fail
                refine (C5.out _ _ _ _ _ _ _ HB4.out HM4.out HF4.out).mono ?_
                rintro e w5 ⟨rfl, hb5⟩
                have HB5 := Lib.hid (below_then HB4.out hb5)
                have HZ5 := Lib.hid (zero_still hb5 HZ4.out)
                have HF5 := Lib.hid (HF4.out.below hb5)
                have m3 := cell_kept hb5 (HM4.out.cells.2.2.2.1)
                clear hb5
                go_wp2_with (refine wpList_store_row rfl _ _ _ rfl w.heap.size #[.int .i64 0, .string ⟨#[]⟩, .int .i64 0, .slice none 0 0, .string ⟨#[]⟩] rfl rfl 34 _ HZ5.out (by kernel_rfl) rfl (by simp [Value.oneCell']) ?_)
                refine bodyPost_ret (results_cell_row_tmp rfl _ _ w.heap.size 34 #[.int .i64 0, .string ⟨#[]⟩, .int .i64 0, .slice none 0 0, .string ⟨#[]⟩] (0, 0) _ rfl (setRow_heap _ _ _ _ _ _ HZ5.out) Tryz.underlying34 rfl (by kernel_rfl)) rfl ?_
                exact ⟨none, 0, by rw [HR.out.1, HR.out.2]; rfl, by rw [HR.out.2]; exact SlF.none_ _, FreshA.none_ _, below_setRow HB5.out (Nat.le_refl _) _⟩
          · rw [if_pos (by simpa using hWE)] at hE
            have HR := Lib.hid (hbad WE hE hWE)
            unfold rp0 at HR
            clear hbad hE hR CB C5 C6 hhe
            go_enter Tryz.func12, Tryz.ntmps12
            go_wp2_with fail
            refine (C1.out _ HB.out).mono ?_
            rintro e w1 ⟨P, A1, n1, c1, rfl, hm1, hP1, hb1⟩
            have HB1 := Lib.hid (below_then HB.out hb1)
            have HZ1 := Lib.hid (zero_still hb1 HZ.out)
            have HM1 := Lib.hid hm1
            have HP := Lib.hid (Nat.lt_of_lt_of_le HLT.out hP1)
            clear hm1 hP1
            obtain ⟨k0, k1, k2, k3, k4, kf⟩ := HM1.out.cells
            clear hb1
            go_wp2_with fail
            refine (C2.out _ HB1.out).mono ?_
            rintro e w2 ⟨sn, sr, sv, rfl, hsv, hb2⟩
            have HB2 := Lib.hid (below_then HB1.out hb2)
            have HZ2 := Lib.hid (zero_still hb2 HZ1.out)
            have HM2 := Lib.hid (HM1.out.below hb2)
            clear k0 k1 k2 k3 k4 kf
            obtain ⟨k0, k1, k2, k3, k4, kf⟩ := HM2.out.cells
            have kf2 := kf 2
            clear hb2
            obtain ⟨rfl, rfl, rfl⟩ := hsv (by trivial)
            have HM2' := Lib.hid (HM2.out.minor RV)
            have HZ2' := Lib.hid (set_else (P := P) (j := 2) (v := .int .i64 RV) HZ2.out (Nat.ne_of_lt HP.out))
            have HB2' := Lib.hid (HB2.out.setCell (p := ⟨P, 2, none⟩) (Nat.le_of_lt HP.out) (.int .i64 RV))
            go_wp2_with fail
            refine (C3.out _ _ _ _ _ HM2'.out).mono ?_
            rintro e w3 ⟨rfl, hm3, hb3⟩
            have HB3 := Lib.hid (HB2'.out.trans (hb3.mono (Nat.le_of_lt HP.out)))
            have HZ3 := Lib.hid ((hb3.block _ HP.out).trans HZ2'.out)
            clear hb3
            go_wp2_with (refine wpList_store_row rfl _ _ _ rfl w.heap.size #[.int .i64 0, .string ⟨#[]⟩, .int .i64 0, .slice none 0 0, .string ⟨#[]⟩] rfl rfl 34 _ HZ3.out (by kernel_rfl) rfl (by simp [Value.oneCell']) ?_)
            refine bodyPost_ret (results_cell_row_tmp rfl _ _ w.heap.size 34 #[.int .i64 0, .string ⟨#[]⟩, .int .i64 0, .slice none 0 0, .string ⟨#[]⟩] (0, 0) _ rfl (setRow_heap _ _ _ _ _ _ HZ3.out) Tryz.underlying34 rfl (by kernel_rfl)) rfl ?_
            exact ⟨none, 0, by rw [HR.out.1, HR.out.2]; rfl, by rw [HR.out.2]; exact SlF.none_ _, FreshA.none_ _, below_setRow HB3.out (Nat.le_refl _) _⟩
      · rw [if_pos (by simpa using hRE)] at hE
        rw [if_pos (by simpa using hRE)] at hme
        subst hme
        have HR := Lib.hid (hbad ME hE hRE)
        unfold rp0 at HR
        clear hbad hE hR C3 CB C5 C6 hhe
        go_enter Tryz.func12, Tryz.ntmps12
        go_wp2_with fail
        refine (C1.out _ HB.out).mono ?_
        rintro e w1 ⟨P, A1, n1, c1, rfl, hm1, hP1, hb1⟩
        have HB1 := Lib.hid (below_then HB.out hb1)
        have HZ1 := Lib.hid (zero_still hb1 HZ.out)
        have HM1 := Lib.hid hm1
        have HP := Lib.hid (Nat.lt_of_lt_of_le HLT.out hP1)
        clear hm1 hP1
        obtain ⟨k0, k1, k2, k3, k4, kf⟩ := HM1.out.cells
        clear hb1
        go_wp2_with fail
        refine (C2.out _ HB1.out).mono ?_
        rintro e w2 ⟨sn, sr, sv, rfl, hsv, hb2⟩
        have HB2 := Lib.hid (below_then HB1.out hb2)
        have HZ2 := Lib.hid (zero_still hb2 HZ1.out)
        have HM2 := Lib.hid (HM1.out.below hb2)
        clear k0 k1 k2 k3 k4 kf
        obtain ⟨k0, k1, k2, k3, k4, kf⟩ := HM2.out.cells
        have kf2 := kf 2
        clear hb2
        go_wp2_with (refine wpList_store_row rfl _ _ _ rfl w.heap.size #[.int .i64 0, .string ⟨#[]⟩, .int .i64 0, .slice none 0 0, .string ⟨#[]⟩] rfl rfl 34 _ HZ2.out (by kernel_rfl) rfl (by simp [Value.oneCell']) ?_)
        refine bodyPost_ret (results_cell_row_tmp rfl _ _ w.heap.size 34 #[.int .i64 0, .string ⟨#[]⟩, .int .i64 0, .slice none 0 0, .string ⟨#[]⟩] (0, 0) _ rfl (setRow_heap _ _ _ _ _ _ HZ2.out) Tryz.underlying34 rfl (by kernel_rfl)) rfl ?_
        exact ⟨none, 0, by rw [HR.out.1, HR.out.2]; rfl, by rw [HR.out.2]; exact SlF.none_ _, FreshA.none_ _, below_setRow HB2.out (Nat.le_refl _) _⟩

end Go.Proofs.YtjcomlklmfeimaaGreatDoor
end

/-
  Plain facts that the checks of package message lean on: a printed start line that can be read is read as what was printed.
-/
section
namespace Go.Proofs.YtjcomlklmfeimaaGreatDoor
open Go.RowKit

theorem plain_bytes (v : Int) : ∀ x ∈ plainL v, x ≠ 32 := fun x hx e => by
  subst e
  unfold plainL at hx
  have hd : ∀ n : Nat, (32 : UInt8) ∉ digs 10 n := fun n hm => by
    have := (digs_val 10 n (by omega) (by omega)).2
    unfold allB at this
    rw [List.all_eq_true] at this
    exact absurd (this _ hm) (by decide)
  split at hx
  · rw [List.mem_cons] at hx
    rcases hx with h | h
    · exact absurd h (by decide)
    · exact hd _ h
  · exact hd _ hx
theorem plain_inj {v u : Int} (h : plainL v = plainL u) : v = u := by
  have hd : ∀ (n : Nat) (r : List UInt8), digs 10 n ≠ 45 :: r := fun n r hm => by
    have := (digs_val 10 n (by omega) (by omega)).2
    unfold allB at this
    rw [List.all_eq_true] at this
    exact absurd (this 45 (by rw [hm]; simp)) (by decide)
  have hv : ∀ n m : Nat, digs 10 n = digs 10 m → n = m := fun n m hm => by
    have h1 := (digs_val 10 n (by omega) (by omega)).1
    have h2 := (digs_val 10 m (by omega) (by omega)).1
    rw [hm, h2] at h1
    omega
  unfold plainL at h
  split at h <;> split at h
  · have := hv _ _ (List.cons.inj h).2
    omega
  · exact absurd h.symm (hd _ _)
  · exact absurd h (hd _ _)
  · have := hv _ _ h
    omega
theorem first_uniq : ∀ {a b c d : List UInt8}, a ++ 32 :: b = c ++ 32 :: d → (∀ x ∈ a, x ≠ 32) → (∀ x ∈ c, x ≠ 32) → a = c ∧ b = d
  | [], b, [], d, h, _, _ => ⟨rfl, by simpa using h⟩
  | [], b, y :: c, d, h, _, hc => by
    simp only [List.nil_append, List.cons_append, List.cons.injEq] at h
    exact absurd h.1.symm (hc y (List.mem_cons_self ..))
  | x :: a, b, [], d, h, ha, _ => by
    simp only [List.nil_append, List.cons_append, List.cons.injEq] at h
    exact absurd h.1 (ha x (List.mem_cons_self ..))
  | x :: a, b, y :: c, d, h, ha, hc => by
    simp only [List.cons_append, List.cons.injEq] at h
    obtain ⟨h1, h2⟩ := first_uniq h.2 (fun z hz => ha z (List.mem_cons_of_mem _ hz)) (fun z hz => hc z (List.mem_cons_of_mem _ hz))
    exact ⟨by rw [h.1, h1], h2⟩
theorem three_uniq : ∀ {a b e c d f : List UInt8}, a ++ 32 :: (b ++ 32 :: e) = c ++ 32 :: (d ++ 32 :: f) → (∀ x ∈ c, x ≠ 32) → (∀ x ∈ d, x ≠ 32) → (∀ x ∈ f, x ≠ 32) → a = c ∧ b = d ∧ e = f
  | [], b, e, [], d, f, h, _, hd, hf => by
    simp only [List.nil_append, List.cons.injEq, true_and] at h
    obtain ⟨h1, h2⟩ := lin_uniq h hd hf
    exact ⟨rfl, h1, h2⟩
  | [], b, e, y :: c, d, f, h, hc, _, _ => by
    simp only [List.nil_append, List.cons_append, List.cons.injEq] at h
    exact absurd h.1.symm (hc y (List.mem_cons_self ..))
  | x :: a, b, e, [], d, f, h, _, hd, hf => by
    simp only [List.nil_append, List.cons_append, List.cons.injEq] at h
    obtain ⟨_, h2⟩ := lin_uniq h.2 hd hf
    exact absurd rfl (hf 32 (by rw [← h2]; simp))
  | x :: a, b, e, y :: c, d, f, h, hc, hd, hf => by
    simp only [List.cons_append, List.cons.injEq] at h
    obtain ⟨h1, h2⟩ := three_uniq h.2 (fun z hz => hc z (List.mem_cons_of_mem _ hz)) hd hf
    exact ⟨by rw [h.1, h1], h2⟩

/-- A printed request line that can be read. -/
theorem rq_read {m t : ByteArray} {v : Int} (h : rqE (prqS m t v) = 0) : (0 ≤ v ∧ v ≤ 1) ∧ rqA (prqS m t v) = m ∧ rqB (prqS m t v) = t := by
  have hl : ¬ 8192 < (prqS m t v).size := fun hl => by rw [(rq_long hl).2.2.2] at h; exact absurd h (by decide)
  have ho : rqO (prqS m t v) = true := by
    cases ho : rqO (prqS m t v) with
    | true => rfl
    | false => rw [(rq_no hl ho).2.2.2] at h; exact absurd h (by decide)
  obtain ⟨hA, hB, _, _⟩ := rq_yes hl ho
  obtain ⟨hp, h0, h1⟩ := rq_print ho
  have ho2 := ho
  unfold rqO rqH at ho2
  simp only [Bool.and_eq_true, decide_eq_true_eq] at ho2
  have hq := congrArg (fun x => x.data.toList) hp
  rw [prq_list, prq_list] at hq
  obtain ⟨e1, e2, e3⟩ := three_uniq hq.symm (tok_no_space ho2.1.1.1) (vis_no_space ho2.2) (fun x hx => by
    rw [List.mem_append] at hx
    rcases hx with hx | hx
    · exact (by decide : ∀ x ∈ ([72, 84, 84, 80, 47, 49, 46] : List UInt8), x ≠ 32) x hx
    · exact plain_bytes _ x hx)
  have e4 := plain_inj (List.append_cancel_left e3)
  refine ⟨by omega, ?_, ?_⟩
  · rw [hA]; exact (bytes_eq e1).symm
  · rw [hB]; exact (bytes_eq e2).symm
/-- A printed status line that can be read. -/
theorem st_read {c : Int} {r : ByteArray} {v : Int} (h : stE (pstS c r v) = 0) : (0 ≤ v ∧ v ≤ 1) ∧ c ≤ 599 ∧ stN (pstS c r v) = c ∧ stB (pstS c r v) = r := by
  obtain ⟨hp, ⟨h0, h1⟩, _, h3⟩ := st_back h
  have hq := congrArg (fun x => x.data.toList) hp
  rw [pst_list, pst_list] at hq
  have hs : ∀ u : Int, ∀ x ∈ ([72, 84, 84, 80, 47, 49, 46] : List UInt8) ++ plainL u, x ≠ 32 := fun u x hx => by
    rw [List.mem_append] at hx
    rcases hx with hx | hx
    · exact (by decide : ∀ x ∈ ([72, 84, 84, 80, 47, 49, 46] : List UInt8), x ≠ 32) x hx
    · exact plain_bytes _ x hx
  obtain ⟨e1, e2⟩ := first_uniq hq (hs _) (hs _)
  obtain ⟨e3, e4⟩ := first_uniq e2 (plain_bytes _) (plain_bytes _)
  have k1 := plain_inj (List.append_cancel_left e1)
  have k2 := plain_inj e3
  exact ⟨by omega, by omega, k2, bytes_eq e4⟩
theorem lq_read {r : Rqst} (h : rqE (prqS r.m r.t r.v) = 0) : (0 ≤ r.v ∧ r.v ≤ 1) ∧ lqB r = true := by
  obtain ⟨h1, h2, h3⟩ := rq_read h
  refine ⟨h1, ?_⟩
  unfold lqB
  rw [h, h2, h3]
  simp
theorem lq_none {r : Rqst} (h : rqE (prqS r.m r.t r.v) ≠ 0) : lqB r = false := by
  unfold lqB
  rw [beq_eq_false_iff_ne.2 h]; rfl
theorem ckQ_line {r : Rqst} (h : rqE (prqS r.m r.t r.v) ≠ 0) : ckQ r = 20 := by
  unfold ckQ
  rw [lq_none h]
  split
  · rfl
  · rfl
theorem ckQ_past {r : Rqst} (h : rqE (prqS r.m r.t r.v) = 0) : ckQ r = if ftE r.f ≠ 0 then ftE r.f else if hoB r.f r.v = false then 26
    else if 65536 < (pmQ r).size then 4 else if r.b.size ≠ 0 ∧ 64 ≤ r.f.length then 4 else 0 := by
  obtain ⟨h1, h2⟩ := lq_read h
  unfold ckQ
  rw [if_neg (by omega), h2, if_neg (by decide)]
theorem mst_zero {s : ByteArray} : mstE s = 0 ↔ stE s = 0 ∧ 200 ≤ stN s := by
  unfold mstE
  split
  · rename_i h; exact ⟨fun k => absurd k h, fun k => absurd k.1 h⟩
  · rename_i h
    have h : stE s = 0 := Classical.not_not.1 h
    split
    · rename_i k; exact ⟨fun x => absurd x (by decide), fun x => by omega⟩
    · rename_i k; exact ⟨fun _ => ⟨h, by omega⟩, fun _ => rfl⟩
theorem lp_read {r : Rply} (h : mstE (pstS r.c r.r r.v) = 0) : (0 ≤ r.v ∧ r.v ≤ 1) ∧ (200 ≤ r.c ∧ r.c ≤ 599) ∧ lpB r = true := by
  obtain ⟨k1, k2⟩ := mst_zero.1 h
  obtain ⟨h1, h2, h3, h4⟩ := st_read k1
  refine ⟨h1, ⟨by omega, h2⟩, ?_⟩
  unfold lpB
  rw [k1, h4]
  simp
theorem ckP_line {r : Rply} (h : mstE (pstS r.c r.r r.v) ≠ 0) : ckP r = 20 := by
  unfold ckP
  split
  · rfl
  · rename_i hr
    have hl : lpB r = false := by
      cases hl : lpB r with
      | false => rfl
      | true =>
        unfold lpB at hl
        rw [Bool.and_eq_true, beq_iff_eq] at hl
        obtain ⟨_, _, h3, _⟩ := st_read hl.1
        exact absurd (mst_zero.2 ⟨hl.1, by omega⟩) h
    rw [hl, if_pos rfl]
theorem ckP_past {r : Rply} (h : mstE (pstS r.c r.r r.v) = 0) : ckP r = if ftE r.f ≠ 0 then ftE r.f
    else if bodL r.c = true ∧ r.b.size ≠ 0 then 22 else if 65536 < (pmP r false).size then 4 else if bodL r.c = false ∧ 64 ≤ r.f.length then 4 else 0 := by
  obtain ⟨h1, h2, h3⟩ := lp_read h
  unfold ckP
  rw [if_neg (by omega), h3, if_neg (by decide)]
theorem ft_few {L : List Fd} (h : ftE L = 0) : L.length ≤ 64 := by
  unfold ftE chkN at h
  by_cases hl : 64 < L.length
  · rw [if_pos hl, if_pos (by decide)] at h
    exact absurd h (by decide)
  · omega
/-- The error of sizes. -/
def sizE (p : ByteArray) (L : List Fd) : Int := if 65536 < p.size ∨ 64 < L.length then 4 else 0
/-- The fields with the length of a body. -/
def msF (L : List Fd) (b : ByteArray) : List Fd := L ++ [(clS, mkS (plainL (b.size : Int)))]
def rqfF (r : Rqst) : List Fd := if r.b.size = 0 then r.f else msF r.f r.b
def rpfF (r : Rply) (bare : Bool) : List Fd := if bodL r.c || (bare && decide (r.b.size = 0)) then r.f else msF r.f r.b
theorem msF_len (L : List Fd) (b : ByteArray) : (msF L b).length = L.length + 1 := by simp [msF]
theorem ckQ_size {r : Rqst} (h : ftE r.f = 0) : sizE (pmQ r) (rqfF r) = if 65536 < (pmQ r).size then 4 else if r.b.size ≠ 0 ∧ 64 ≤ r.f.length then 4 else 0 := by
  have := ft_few h
  unfold sizE rqfF
  by_cases h1 : 65536 < (pmQ r).size
  · rw [if_pos (.inl h1), if_pos h1]
  · by_cases h2 : r.b.size = 0
    · rw [if_pos h2, if_neg (by omega), if_neg h1, if_neg (by omega)]
    · rw [if_neg h2, msF_len, if_neg h1]
      by_cases h3 : 64 ≤ r.f.length
      · rw [if_pos (by omega), if_pos ⟨h2, h3⟩]
      · rw [if_neg (by omega), if_neg (by omega)]
theorem ckP_size {r : Rply} (h : ftE r.f = 0) : sizE (pmP r false) (rpfF r false) = if 65536 < (pmP r false).size then 4 else if bodL r.c = false ∧ 64 ≤ r.f.length then 4 else 0 := by
  have := ft_few h
  unfold sizE rpfF
  by_cases h1 : 65536 < (pmP r false).size
  · rw [if_pos (.inl h1), if_pos h1]
  · cases h2 : bodL r.c with
    | true =>
      have e : (true || (false && decide (r.b.size = 0))) = true := rfl
      rw [if_pos e, if_neg (by omega), if_neg h1, if_neg (by simp)]
    | false =>
      have e : ¬ (false || (false && decide (r.b.size = 0))) = true := by simp
      rw [if_neg e, msF_len, if_neg h1]
      by_cases h3 : 64 ≤ r.f.length
      · rw [if_pos (by omega), if_pos ⟨rfl, h3⟩]
      · rw [if_neg (by omega), if_neg (by omega)]
/-- What compose writes. -/
def cmpS (st : ByteArray) (L : List Fd) (b : ByteArray) : ByteArray := mkS (st.data.toList ++ [13, 10] ++ lnsL L ++ [13, 10] ++ b.data.toList)
theorem lns_ms (L : List Fd) (b : ByteArray) : lnsL (msF L b) = lnsL L ++ clL b := by
  unfold lnsL msF clL
  rw [List.flatMap_append]
  simp [lineS, mkS_list, clS, clH]
theorem cmp_q (r : Rqst) : cmpS (prqS r.m r.t r.v) (rqfF r) r.b = pmQ r := by
  unfold cmpS pmQ rqfF
  split
  · simp
  · rw [lns_ms]; simp
theorem cmp_p (r : Rply) (hd : Bool) : cmpS (pstS r.c r.r r.v) (rpfF r hd) (if hd || bodL r.c then ⟨#[]⟩ else r.b) = pmP r hd := by
  unfold cmpS pmP rpfF
  cases bodL r.c <;> cases hd <;> by_cases hz : r.b.size = 0 <;> simp [hz, lns_ms]

end Go.Proofs.YtjcomlklmfeimaaGreatDoor
end

/-
  Contracts of slices.Grow and slices.Concat on fields, of package message's measured, requestFields, replyFields, compose.
-/
section
namespace Go.Proofs.YtjcomlklmfeimaaGreatDoor
open Go.RowKit

theorem Tryz.infoFd : (Tryz.prog.info? 105).map (fun i => (i.zero, i.size, i.bytes)) = some (some (.agg #[.string ⟨#[]⟩, .string ⟨#[]⟩]), 2, 32) := by kernel_rfl

set_option maxHeartbeats 1000000 in
set_option maxRecDepth 100000 in
theorem growF_any (k : Nat) (w : World) (hk : k ≤ 1000000) :
    Calls Tryz.prog 145 #[.slice none 0 0, .int .i64 k] w fun e w' => ∃ v, e = .returned v ∧ OwnF w' w.heap.size 105 v [] ∧ Below w.heap.size w w' := by
  by_cases h0 : k = 0
  · subst h0
    go_enter Tryz.func145, Tryz.ntmps145
    go_wp2_with fail
    go_ret
    exact ⟨_, rfl, OwnF.nil _ _ _, Below.refl _ _⟩
  · have hk1 : (0 : Int) < (k : Int) := by omega
    obtain ⟨i0, hi, hz0, hz1, hz2⟩ := info_parts Tryz.infoFd
    have hr := Lib.hid (Lib.run_append_nil_zeros (P := Tryz.prog) w 23 3 23 105 i0 (.agg #[.string ⟨#[]⟩, .string ⟨#[]⟩]) .i64 .i64 Tryz.underlying23 Tryz.underlying3 hi hz0 k (by omega) (by omega) (by omega) (by rw [hz2]; omega))
    have hgc := grownCap_ge w k 0 105
    have hgm := grownCap_le_maxLen w k 0 105 (by unfold maxLen; omega)
    have HO : Hid (OwnF (w.drew.alloc (.cells (Builtin.zeroCells (Value.agg #[.string ⟨#[]⟩, .string ⟨#[]⟩]).cells k ++ Builtin.zeroCells (Value.agg #[.string ⟨#[]⟩, .string ⟨#[]⟩]).cells (grownCap w k 0 105 - k)) 105)) w.heap.size 105 (.slice (some ⟨w.heap.size, 0, none⟩) 0 (grownCap w k 0 105)) []) :=
      World.ownsRow_made w.drew _ _ (Nat.le_refl _) hgm (by simp only [Array.size_append, size_zeroCells]; show k * 2 + (_ - k) * 2 = _ * 2; omega)
    clear hgc hgm hi hz0 hz1 hz2
    go_enter Tryz.func145, Tryz.ntmps145
    go_wp2_with (at_builtin; refine Lib.wpList_append_run _ rfl _ _ _ _ rfl _ _ rfl rfl _ _ hr.out ?_)
    go_ret
    exact ⟨_, rfl, HO.out, (Below.refl _ _).drew.alloc (Nat.le_refl _) _⟩

set_option maxHeartbeats 2000000 in
set_option maxRecDepth 100000 in
/-- Two slices put together. -/
theorem concatF_any (B : Nat) (A1 A2 : Option Addr) (n1 c1 n2 c2 : Nat) (X Y : List Fd) (w : World) (hg1 : w.cell? ⟨B, 0, none⟩ = some (.slice A1 n1 c1)) (hg2 : w.cell? ⟨B, 1, none⟩ = some (.slice A2 n2 c2))
    (h1 : SlF w A1 n1 c1 X) (h2 : SlF w A2 n2 c2 Y) (hs : X.length + Y.length ≤ 1000000) :
    Calls Tryz.prog 118 #[.slice (some ⟨B, 0, none⟩) 2 2] w fun e w' => ∃ v, e = .returned v ∧ OwnF w' w.heap.size 105 v (X ++ Y) ∧ Below w.heap.size w w' := by
  have hn1 := h1.len
  have hn2 := h2.len
  subst hn1 hn2
  have H1 := Lib.hid h1
  have H2 := Lib.hid h2
  have G1 := Lib.hid hg1
  have G2 := Lib.hid hg2
  clear h1 h2
  go_enter Tryz.func118, Tryz.ntmps118
  go_wp2_with fail
  go_loop [3, 11] (fun s i => (i = .int .i64 0 ∧ s = .int .i64 0) ∨ (i = .int .i64 1 ∧ s = .int .i64 X.length) ∨ (i = .int .i64 2 ∧ s = .int .i64 ((X.length : Int) + Y.length))) (fun _ i => 2 - (intOf i).toNat)
  case atStart => exact .inl ⟨rfl, rfl⟩
  case round =>
    rcases hrel with ⟨rfl, rfl⟩ | ⟨rfl, rfl⟩ | ⟨rfl, rfl⟩
    · go_wp2_with fail
      go_round
      case rel => exact .inr (.inl ⟨rfl, by go_num⟩)
      case measure => simp [intOf]
    · go_wp2_with fail
      go_round
      case rel => exact .inr (.inr ⟨rfl, by go_num⟩)
      case measure => simp [intOf]
    · go_wp2_with fail
      refine (growF_any (X.length + Y.length) _ ?hh).mono ?_
      case hh => omega
      rintro e w1 ⟨v0, rfl, hown, hb1⟩
      have K1 := Lib.hid (H1.out.below hb1)
      have K2 := Lib.hid (H2.out.below hb1)
      have HO := Lib.hid hown
      have HB := Lib.hid hb1
      have hx1 := cell_kept hb1 G1.out
      have hx2 := cell_kept hb1 G2.out
      clear hg1 hg2 hown hb1
      go_wp2_with fail
      go_loopw [6, 27] (fun v i wr => ∃ (k : Nat) (Z : List Fd), ((k = 0 ∧ Z = []) ∨ (k = 1 ∧ Z = X) ∨ (k = 2 ∧ Z = X ++ Y)) ∧ i = .int .i64 k ∧ OwnF wr w.heap.size 105 v Z ∧ Below w.heap.size w wr) (fun _ i _ => 2 - (intOf i).toNat)
      case atStart => exact ⟨0, [], .inl ⟨rfl, rfl⟩, rfl, HO.out, HB.out⟩
      case round =>
        clear K1 K2 HO HB hx1 hx2
        obtain ⟨k, Z, hk, rfl, hown, hbel⟩ := hrel
        have K1 := Lib.hid (H1.out.below hbel)
        have K2 := Lib.hid (H2.out.below hbel)
        have hx1 := cell_kept hbel G1.out
        have hx2 := cell_kept hbel G2.out
        have HO := Lib.hid hown
        have HB := Lib.hid hbel
        have HS := Lib.hid hbel.size
        clear hown hbel
        rcases hk with ⟨rfl, rfl⟩ | ⟨rfl, rfl⟩ | ⟨rfl, rfl⟩
        · go_wp2_with (at_builtin; refine wpList_append_slf rfl _ _ 23 rfl w.heap.size 105 Tryz.underlying23 Tryz.infoFd _ rfl [] HO.out A1 X.length c1 rfl X K1.out (by simp; omega) HS.out w HB.out ?_)
          intro v' w2 ho2 hb2 _
          have HO2 := Lib.hid ho2
          have HB2 := Lib.hid hb2
          clear ho2 hb2
          go_wp2_with fail
          go_roundw
          case rel => exact ⟨1, X, .inr (.inl ⟨rfl, rfl⟩), rfl, HO2.out.out, HB2.out⟩
          case measure => simp [intOf]
        · go_wp2_with (at_builtin; refine wpList_append_slf rfl _ _ 23 rfl w.heap.size 105 Tryz.underlying23 Tryz.infoFd _ rfl Z HO.out A2 Y.length c2 rfl Y K2.out (by omega) HS.out w HB.out ?_)
          intro v' w2 ho2 hb2 _
          have HO2 := Lib.hid ho2
          have HB2 := Lib.hid hb2
          clear ho2 hb2
          go_wp2_with fail
          go_roundw
          case rel => exact ⟨2, Z ++ Y, .inr (.inr ⟨rfl, rfl⟩), rfl, HO2.out.out, HB2.out⟩
          case measure => simp [intOf]
        · go_wp2_with fail
          go_ret
          exact ⟨_, rfl, HO.out, HB.out⟩

end Go.Proofs.YtjcomlklmfeimaaGreatDoor
end

/-
  Contracts of package message's measured, requestFields, replyFields.
-/
section
namespace Go.Proofs.YtjcomlklmfeimaaGreatDoor
open Go.RowKit

/-- The answer is a slice of these fields. -/
def IsFd (w : World) (X : List Fd) (e : Ending) (w' : World) : Prop := ∃ A c, e = .returned (.slice A X.length c) ∧ SlF w' A X.length c X ∧ Below w.heap.size w w'
def Fz (L : List Fd) : Prop := ∀ x ∈ L, x.1.size ≤ maxLen ∧ x.2.size ≤ maxLen
theorem ms_fz {L : List Fd} (h : Fz L) (b : ByteArray) (hb : b.size ≤ 1000000) : Fz (msF L b) := fun x hx => by
  unfold msF at hx
  rw [List.mem_append, List.mem_singleton] at hx
  rcases hx with hx | rfl
  · exact h x hx
  · refine ⟨by show clS.size ≤ _; decide, ?_⟩
    show (mkS (plainL (b.size : Int))).size ≤ maxLen
    rw [mkS_size]
    have := plainL_short (b.size : Int) (by omega) (by omega)
    have : (100 : Nat) ≤ maxLen := by decide
    omega

set_option maxHeartbeats 4000000 in
set_option maxRecDepth 100000 in
theorem measured_any (A : Option Addr) (c : Nat) (L : List Fd) (b : ByteArray) (w : World) (h : SlF w A L.length c L) (hn : L.length ≤ 100000) (hb : b.size ≤ 1000000) (HT : MsgTabs w) :
    Calls Tryz.prog 87 #[.slice A L.length c, .string b] w (IsFd w (msF L b)) := by
  have hfz : Fz (msF L b) := ms_fz h.sz b hb
  have C1 := Lib.hid (fun W (hW : Below w.heap.size w W) => plain_any (b.size : Int) (by omega) (by omega) W (HT.kept hW).lin.pow)
  have hD : msF L b = L ++ [(clS, mkS (plainL (b.size : Int)))] := rfl
  have hds : (mkS (plainL (b.size : Int))).size ≤ maxLen := (hfz (clS, mkS (plainL (b.size : Int))) (by rw [hD]; simp)).2
  have HF := Lib.hid hfz
  have HD := Lib.hid hD
  have HDS := Lib.hid hds
  have HH := Lib.hid h
  have HN := Lib.hid hn
  clear hfz hD hds h HT hn
  unfold IsFd
  generalize msF L b = X at *
  generalize mkS (plainL (b.size : Int)) = D at *
  go_enter Tryz.func87, Tryz.ntmps87
  go_wp2_with fail
  refine (C1.out _ (Below.refl _ _)).mono ?_
  rintro e w1 ⟨rfl, hb1⟩
  have HB1 := Lib.hid hb1
  have HH1 := Lib.hid (HH.out.below hb1)
  clear hb1
  generalize hW2 : w1.alloc (.cells #[.string ⟨#[67, 111, 110, 116, 101, 110, 116, 45, 76, 101, 110, 103, 116, 104]⟩, .string D] 105) = W2 at *
  have qz : W2.heap[w1.heap.size]? = some (.cells #[.string ⟨#[67, 111, 110, 116, 101, 110, 116, 45, 76, 101, 110, 103, 116, 104]⟩, .string D] 105 (0, 0)) := by rw [← hW2]; exact heap_alloc_new w1 _
  have qa := (zero_two qz).1
  have qb := (zero_two qz).2
  go_wp2_with fail
  have hds : ((⟨#[67, 111, 110, 116, 101, 110, 116, 45, 76, 101, 110, 103, 116, 104]⟩ : ByteArray), D).1.size ≤ maxLen ∧ ((⟨#[67, 111, 110, 116, 101, 110, 116, 45, 76, 101, 110, 103, 116, 104]⟩ : ByteArray), D).2.size ≤ maxLen := ⟨by show (14 : Nat) ≤ maxLen; decide, HDS.out⟩
  have HS3 := Lib.hid (SlF.one W2 105 ((⟨#[67, 111, 110, 116, 101, 110, 116, 45, 76, 101, 110, 103, 116, 104]⟩ : ByteArray), D) hds)
  have HB2 : Hid (Below w.heap.size w W2) := by show Below _ _ _; rw [← hW2]; exact HB1.out.alloc HB1.out.size _
  have HH2 : Hid (SlF W2 A L.length c L) := by show SlF _ _ _ _ _; rw [← hW2]; exact HH1.out.alloc _
  have HD2 : Hid (L ++ [((⟨#[67, 111, 110, 116, 101, 110, 116, 45, 76, 101, 110, 103, 116, 104]⟩ : ByteArray), D)] = X) := HD.out.symm
  clear hds qz qa qb hW2 HD
  have HB3 := Lib.hid (HB2.out.alloc HB2.out.size (.cells #[.string ⟨#[67, 111, 110, 116, 101, 110, 116, 45, 76, 101, 110, 103, 116, 104]⟩, .string D] 105))
  have HH3 := Lib.hid (HH2.out.alloc (.cells #[.string ⟨#[67, 111, 110, 116, 101, 110, 116, 45, 76, 101, 110, 103, 116, 104]⟩, .string D] 105))
  have hs3 : (W2.alloc (.cells #[.string ⟨#[67, 111, 110, 116, 101, 110, 116, 45, 76, 101, 110, 103, 116, 104]⟩, .string D] 105)).heap.size = W2.heap.size + 1 := by simp
  generalize W2.alloc (.cells #[.string ⟨#[67, 111, 110, 116, 101, 110, 116, 45, 76, 101, 110, 103, 116, 104]⟩, .string D] 105) = W3 at *
  rw [← hs3]
  have hz4 := heap_alloc_new W3 (.cells #[.slice A L.length c, .slice (some ⟨W2.heap.size, 0, none⟩) 1 1] 23)
  have HB4 := Lib.hid (HB3.out.alloc HB3.out.size (.cells #[.slice A L.length c, .slice (some ⟨W2.heap.size, 0, none⟩) 1 1] 23))
  have HH4 := Lib.hid (HH3.out.alloc (.cells #[.slice A L.length c, .slice (some ⟨W2.heap.size, 0, none⟩) 1 1] 23))
  have HS4 := Lib.hid (HS3.out.alloc (.cells #[.slice A L.length c, .slice (some ⟨W2.heap.size, 0, none⟩) 1 1] 23))
  generalize W3.alloc (.cells #[.slice A L.length c, .slice (some ⟨W2.heap.size, 0, none⟩) 1 1] 23) = W4 at *
  clear hs3
  refine (concatF_any W3.heap.size A (some ⟨W2.heap.size, 0, none⟩) L.length c 1 1 L [((⟨#[67, 111, 110, 116, 101, 110, 116, 45, 76, 101, 110, 103, 116, 104]⟩ : ByteArray), D)] W4 (zero_two hz4).1 (zero_two hz4).2 HH4.out HS4.out ?hh).mono ?_
  case hh => have := HN.out; show L.length + 1 ≤ _; omega
  rintro e w5 ⟨v5, rfl, hown, hb5⟩
  rw [HD2.out] at hown
  obtain ⟨A5, c5, rfl, hF5⟩ := hown.slf HF.out
  have HF5 := Lib.hid hF5
  have HB5 := Lib.hid (below_then HB4.out hb5)
  clear hown hF5 hb5 hz4
  go_wp2_with fail
  go_ret
  exact ⟨A5, c5, rfl, HF5.out, HB5.out⟩

/-! ### Of a message -/
set_option maxHeartbeats 4000000 in
set_option maxRecDepth 100000 in
theorem requestFields_any (r : Rqst) (A : Option Addr) (c : Nat) (w : World) (h : SlF w A r.f.length c r.f) (hn : r.f.length ≤ 100000) (hb : r.b.size ≤ 1000000) (HT : MsgTabs w) :
    Calls Tryz.prog 48 #[.agg (rqC r A c)] w (IsFd w (rqfF r)) := by
  have C1 := Lib.hid (fun W (hW : Below w.heap.size w W) A' c' (hF : SlF W A' r.f.length c' r.f) => measured_any A' c' r.f r.b W hF hn hb (HT.kept hW))
  have hR0 : r.b.size = 0 → rqfF r = r.f := fun h => by unfold rqfF; rw [if_pos h]
  have hR1 : r.b.size ≠ 0 → rqfF r = msF r.f r.b := fun h => by unfold rqfF; rw [if_neg h]
  unfold IsFd at *
  unfold rqC
  obtain ⟨m, t, v, f, b⟩ := r
  simp only at *
  generalize msF f b = M at *
  generalize rqfF ⟨m, t, v, f, b⟩ = R at *

  have HZ : Hid ((w.alloc (.cells #[.string m, .string t, .int .i64 v, .slice A f.length c, .string b] 25)).heap[w.heap.size]? = some (.cells #[.string m, .string t, .int .i64 v, .slice A f.length c, .string b] 25 (0, 0))) := heap_alloc_new w _
  have HB : Hid (Below w.heap.size w (w.alloc (.cells #[.string m, .string t, .int .i64 v, .slice A f.length c, .string b] 25))) := (Below.refl _ _).alloc (Nat.le_refl _) _
  have HF : Hid (SlF (w.alloc (.cells #[.string m, .string t, .int .i64 v, .slice A f.length c, .string b] 25)) A f.length c f) := h.alloc _
  clear h HT
  by_cases hz : b.size = 0
  · rw [hR0 hz]
    have hem := nil_str hz
    have hem' : (b.toList == []) = true := by simpa using hem
    clear hR0 hR1 C1
    go_enter Tryz.func48, Tryz.ntmps48
    obtain ⟨x0, x1, x2, x3, x4⟩ := cel5 HZ.out
    go_wp2_with fail
    go_ret
    exact ⟨A, c, rfl, HF.out, HB.out⟩
  · rw [hR1 hz]
    have hem := non_str hz
    have hem' : (b.toList == []) = false := by simpa using hem
    clear hR0 hR1
    go_enter Tryz.func48, Tryz.ntmps48
    obtain ⟨x0, x1, x2, x3, x4⟩ := cel5 HZ.out
    go_wp2_with fail
    refine (C1.out _ HB.out _ _ HF.out).mono ?_
    rintro e w2 ⟨A1, c1, rfl, hF1, hb2⟩
    go_wp2_with fail
    go_ret
    exact ⟨A1, c1, rfl, hF1, below_then HB.out hb2⟩

set_option maxHeartbeats 4000000 in
set_option maxRecDepth 100000 in
theorem replyFields_any (r : Rply) (hd : Bool) (A : Option Addr) (c : Nat) (w : World) (h : SlF w A r.f.length c r.f) (hn : r.f.length ≤ 100000) (hb : r.b.size ≤ 1000000) (HT : MsgTabs w) :
    Calls Tryz.prog 53 #[.agg (rpC r A c), .bool hd] w (IsFd w (rpfF r hd)) := by
  have C1 := Lib.hid (fun W (hW : Below w.heap.size w W) A' c' (hF : SlF W A' r.f.length c' r.f) => measured_any A' c' r.f r.b W hF hn hb (HT.kept hW))
  have CB := Lib.hid (fun W => bodl_any r.c W)
  have hR0 : bodL r.c = true → rpfF r hd = r.f := fun h => by unfold rpfF; rw [h, if_pos (by simp)]
  have hR1 : bodL r.c = false → hd = false → rpfF r hd = msF r.f r.b := fun h h2 => by unfold rpfF; rw [h, h2, if_neg (by simp)]
  have hR2 : bodL r.c = false → hd = true → r.b.size = 0 → rpfF r hd = r.f := fun h h2 h3 => by unfold rpfF; rw [h, h2, if_pos (by simp [h3])]
  have hR3 : bodL r.c = false → hd = true → r.b.size ≠ 0 → rpfF r hd = msF r.f r.b := fun h h2 h3 => by unfold rpfF; rw [h, h2, if_neg (by simp [h3])]
  unfold IsFd at *
  unfold rpC
  obtain ⟨m, t, v, f, b⟩ := r
  simp only at *
  generalize msF f b = M at *
  generalize rpfF ⟨m, t, v, f, b⟩ hd = R at *
  generalize bodL m = bl at *
  have HZ : Hid ((w.alloc (.cells #[.int .i64 m, .string t, .int .i64 v, .slice A f.length c, .string b] 34)).heap[w.heap.size]? = some (.cells #[.int .i64 m, .string t, .int .i64 v, .slice A f.length c, .string b] 34 (0, 0))) := heap_alloc_new w _
  have HB : Hid (Below w.heap.size w (w.alloc (.cells #[.int .i64 m, .string t, .int .i64 v, .slice A f.length c, .string b] 34))) := (Below.refl _ _).alloc (Nat.le_refl _) _
  have HF : Hid (SlF (w.alloc (.cells #[.int .i64 m, .string t, .int .i64 v, .slice A f.length c, .string b] 34)) A f.length c f) := h.alloc _
  clear h HT
  cases bl with
  | true =>
    rw [hR0 rfl]
    clear hR0 hR1 hR2 hR3 C1
    go_enter Tryz.func53, Tryz.ntmps53
    obtain ⟨x0, x1, x2, x3, x4⟩ := cel5 HZ.out
    go_wp2_with fail
    refine (CB.out _).mono ?_
    rintro e w1 ⟨rfl, hb1⟩
    have HZ := Lib.hid (zero_still hb1 HZ.out)
    have HF := Lib.hid (HF.out.below hb1)
    have HB := Lib.hid (below_then HB.out hb1)
    clear hb1 x0 x1 x2 x3 x4
    obtain ⟨x0, x1, x2, x3, x4⟩ := cel5 HZ.out
    go_wp2_with fail
    go_ret
    exact ⟨A, c, rfl, HF.out, HB.out⟩
  | false =>
    cases hd with
    | false =>
      rw [hR1 rfl rfl]
      clear hR0 hR1 hR2 hR3
      go_enter Tryz.func53, Tryz.ntmps53
      obtain ⟨x0, x1, x2, x3, x4⟩ := cel5 HZ.out
      go_wp2_with fail
      refine (CB.out _).mono ?_
      rintro e w1 ⟨rfl, hb1⟩
      have HZ := Lib.hid (zero_still hb1 HZ.out)
      have HF := Lib.hid (HF.out.below hb1)
      have HB := Lib.hid (below_then HB.out hb1)
      clear hb1 x0 x1 x2 x3 x4
      obtain ⟨x0, x1, x2, x3, x4⟩ := cel5 HZ.out
      go_wp2_with fail
      refine (C1.out _ HB.out _ _ HF.out).mono ?_
      rintro e w2 ⟨A1, c1, rfl, hF1, hb2⟩
      go_wp2_with fail
      go_ret
      exact ⟨A1, c1, rfl, hF1, below_then HB.out hb2⟩
    | true =>
      by_cases hz : b.size = 0
      · skip
        rw [hR2 rfl rfl hz]
        have hem := nil_str hz
        have hem' : (b.toList == []) = true := by simpa using hem
        clear hR0 hR1 hR2 hR3 C1
        go_enter Tryz.func53, Tryz.ntmps53
        obtain ⟨x0, x1, x2, x3, x4⟩ := cel5 HZ.out
        go_wp2_with fail
        refine (CB.out _).mono ?_
        rintro e w1 ⟨rfl, hb1⟩
        have HZ := Lib.hid (zero_still hb1 HZ.out)
        have HF := Lib.hid (HF.out.below hb1)
        have HB := Lib.hid (below_then HB.out hb1)
        clear hb1 x0 x1 x2 x3 x4
        obtain ⟨x0, x1, x2, x3, x4⟩ := cel5 HZ.out
        go_wp2_with fail
        go_ret
        exact ⟨A, c, rfl, HF.out, HB.out⟩
      · skip
        rw [hR3 rfl rfl hz]
        have hem := non_str hz
        have hem' : (b.toList == []) = false := by simpa using hem
        clear hR0 hR1 hR2 hR3
        go_enter Tryz.func53, Tryz.ntmps53
        obtain ⟨x0, x1, x2, x3, x4⟩ := cel5 HZ.out
        go_wp2_with fail
        refine (CB.out _).mono ?_
        rintro e w1 ⟨rfl, hb1⟩
        have HZ := Lib.hid (zero_still hb1 HZ.out)
        have HF := Lib.hid (HF.out.below hb1)
        have HB := Lib.hid (below_then HB.out hb1)
        clear hb1 x0 x1 x2 x3 x4
        obtain ⟨x0, x1, x2, x3, x4⟩ := cel5 HZ.out
        go_wp2_with fail
        refine (C1.out _ HB.out _ _ HF.out).mono ?_
        rintro e w2 ⟨A1, c1, rfl, hF1, hb2⟩
        go_wp2_with fail
        go_ret
        exact ⟨A1, c1, rfl, hF1, below_then HB.out hb2⟩

end Go.Proofs.YtjcomlklmfeimaaGreatDoor
end

/-
  Contract of package message's compose.
-/
section
namespace Go.Proofs.YtjcomlklmfeimaaGreatDoor
open Go.RowKit

/-- What is composed is small enough. -/
structure SmC (st : ByteArray) (L : List Fd) (b : ByteArray) : Prop where
  st : st.size ≤ 100000
  few : L.length ≤ 1001
  sz : ∀ x ∈ L, x.1.size ≤ 10000 ∧ x.2.size ≤ 10000
  bd : b.size ≤ 100000
theorem bcrl (a : ByteArray) : (a ++ (⟨#[13, 10]⟩ : ByteArray)).data.toList = a.data.toList ++ [13, 10] := by rw [append_list]
theorem bcrz (a : ByteArray) : (a ++ (⟨#[13, 10]⟩ : ByteArray)).size = a.size + 2 := by rw [ByteArray.size_append]; rfl

set_option maxHeartbeats 8000000 in
set_option maxRecDepth 100000 in
theorem compose_any (st : ByteArray) (A : Option Addr) (c : Nat) (L : List Fd) (b : ByteArray) (w : World) (h : SlF w A L.length c L) (hm : SmC st L b) :
    Calls Tryz.prog 46 #[.string st, .slice A L.length c, .string b] w fun e w' => e = .returned (.string (cmpS st L b)) ∧ Below w.heap.size w w' := by
  obtain ⟨m1, m2, m3, m4⟩ := hm
  have hmm : (1000000000 : Nat) ≤ maxLen := by decide
  have HM := Lib.hid (Bld.made w)
  have HB : Hid (Below w.heap.size w (w.alloc (.cells #[.pointer none, .slice none 0 0] 123))) := (Below.refl _ _).alloc (Nat.le_refl _) _
  have H := Lib.hid h
  have C1 := Lib.hid (fun W (k : Bld W w.heap.size []) => write_any w.heap.size [] (st ++ ⟨#[13, 10]⟩) W k (by rw [bcrz]; show 0 + (st.size + 2) ≤ _; omega))
  have hst : ([] : List UInt8) ++ (st ++ (⟨#[13, 10]⟩ : ByteArray)).data.toList = st.data.toList ++ [13, 10] := by rw [bcrl]; rfl
  rw [hst] at C1
  have hcz : ((⟨#[13, 10]⟩ : ByteArray) ++ b).size = b.size + 2 := by rw [ByteArray.size_append]; show 2 + b.size = _; omega
  have hcl : ((⟨#[13, 10]⟩ : ByteArray) ++ b).data.toList = [13, 10] ++ b.data.toList := by rw [append_list]
  have hR : mkS (st.data.toList ++ [13, 10] ++ lnsL L ++ ((⟨#[13, 10]⟩ : ByteArray) ++ b).data.toList) = cmpS st L b := by unfold cmpS; rw [hcl]; simp
  have hLL : ∀ k, (st.data.toList ++ [13, 10] ++ lnsL (L.take k)).length ≤ 20200000 := fun k => by
    have := lnsL_le (L.take k) fun x hx => m3 x (List.mem_of_mem_take hx)
    rw [List.length_take] at this
    have : min k L.length ≤ 1001 := by omega
    rw [List.length_append, List.length_append, ← Lib.size_eq]
    show st.size + 2 + _ ≤ _
    omega
  have HR := Lib.hid hR
  have HLL := Lib.hid hLL
  have hs1 : (st.size : Int) ≤ 100000 := by omega
  have hb1 : (b.size : Int) ≤ 100000 := by omega
  clear h hst hR hLL hcl
  generalize cmpS st L b = R at *
  go_enter Tryz.func46, Tryz.ntmps46
  go_wp2_with fail
  refine (C1.out _ HM.out).mono ?_
  rintro e w1 ⟨rfl, hk1, hb2⟩
  have HK1 := Lib.hid hk1
  have HB1 := Lib.hid (HB.out.trans hb2)
  clear hk1 hb2 HM HB C1
  go_wp2_with fail
  go_loopw [15] (fun i wr => ∃ (k : Nat) (o : List UInt8), k ≤ L.length ∧ i = .int .i64 (k : Int) ∧ Hid (o = st.data.toList ++ [13, 10] ++ lnsL (L.take k)) ∧ Hid (Bld wr w.heap.size o) ∧ Hid (Below w.heap.size w wr)) (fun i _ => L.length - (intOf i).toNat)
  case atStart => exact ⟨0, _, Nat.zero_le _, rfl, by show _ = _; simp [lnsL], HK1.out, HB1.out⟩
  case round =>
    clear HK1 HB1
    obtain ⟨k, o, hk, rfl, ho, HK, HB⟩ := hrel
    have hol : o.length ≤ 20200000 := by rw [ho.out]; exact HLL.out k
    by_cases hlt : k < L.length
    · obtain ⟨ad, rfl, hc⟩ := H.out.at_ (by omega)
      obtain ⟨hc0, hc1⟩ := hc k L[k] (List.getElem?_eq_getElem hlt)
      have hcell0 := cell_kept HB.out hc0
      have hcell1 := fd_snd (cell_kept HB.out hc1)
      have hsn := lnsL_snoc L k hlt
      have hxz := m3 _ (List.getElem_mem hlt)
      have hls := line_size L[k]
      have CL := Lib.hid (fun W => line_any L[k] (by omega) W)
      generalize L[k] = x at *
      have HT : Hid (o ++ (lineS x ++ (⟨#[13, 10]⟩ : ByteArray)).data.toList = st.data.toList ++ [13, 10] ++ lnsL (L.take (k + 1))) := by
        show _ = _
        rw [bcrl, ho.out, hsn]; simp
      have hlz : (lineS x).size ≤ 20002 := by omega
      have C2 := Lib.hid (fun W (q : Bld W w.heap.size o) => write_any w.heap.size o (lineS x ++ ⟨#[13, 10]⟩) W q (by rw [bcrz]; omega))
      have hls1 : ((lineS x).size : Int) ≤ 20002 := by omega
      generalize lineS x = ls at *
      obtain ⟨xa, xb⟩ := x
      unfold fdV at CL
      have hi0 : (0 : Int) ≤ (k : Int) := by omega
      have hi1 : (k : Int) < (L.length : Int) := by omega
      clear hc hc0 hc1 hsn hxz hls ho hol m3 hlz hcz HR
      have HK2 := Lib.hid (HK.out.below ((Below.refl _ _).alloc (Nat.le_refl _) (.cells #[.string xa, .string xb] 105)))
      have HB2 := Lib.hid (HB.out.alloc HB.out.size (.cells #[.string xa, .string xb] 105))
      clear HK HB
      go_wp2_with fail
      refine (CL.out _).mono ?_
      rintro e w2 ⟨rfl, hb2⟩
      have HK3 := Lib.hid (HK2.out.below hb2)
      have HB3 := Lib.hid (below_then HB2.out hb2)
      clear hb2 HK2 HB2 hcell0 hcell1
      go_wp2_with fail
      refine (C2.out _ HK3.out).mono ?_
      rintro e w3 ⟨rfl, hk3, hb3⟩
      have HK4 := Lib.hid hk3
      have HB4 := Lib.hid (HB3.out.trans hb3)
      clear hk3 hb3 HK3 HB3
      go_wp2_with fail
      go_roundw
      case rel => exact ⟨k + 1, _, by omega, by go_num, HT, HK4, HB4⟩
      case measure => simp [intOf]; omega
    · have hi1 : ¬ (k : Int) < (L.length : Int) := by omega
      have C2 := Lib.hid (fun W (q : Bld W w.heap.size o) => write_any w.heap.size o ((⟨#[13, 10]⟩ : ByteArray) ++ b) W q (by rw [hcz]; omega))
      have C3 := Lib.hid (fun W (q : Bld W w.heap.size (o ++ ((⟨#[13, 10]⟩ : ByteArray) ++ b).data.toList)) => Tryz.Builder_String_any w.heap.size w.heap.size _ W q.lib (Nat.le_of_lt q.size))
      have HR2 : Hid (mkS (o ++ ((⟨#[13, 10]⟩ : ByteArray) ++ b).data.toList) = R) := by
        show _ = _
        rw [← HR.out, ho.out, List.take_of_length_le (by omega)]
      clear ho hol m3 hcz HR
      go_wp2_with fail
      generalize (⟨#[13, 10]⟩ : ByteArray) ++ b = cb at *
      refine (C2.out _ HK.out).mono ?_
      rintro e w3 ⟨rfl, hk3, hb3⟩
      have HK4 := Lib.hid hk3
      have HB4 := Lib.hid (HB.out.trans hb3)
      clear hk3 hb3
      go_wp2_with fail
      refine (C3.out _ HK4.out).mono ?_
      rintro e w4 ⟨rfl, hb4⟩
      have HB5 := Lib.hid (HB4.out.trans hb4)
      clear hb4
      go_wp2_with fail
      go_ret
      exact ⟨by rw [← HR2.out]; rfl, HB5.out⟩

end Go.Proofs.YtjcomlklmfeimaaGreatDoor
end
