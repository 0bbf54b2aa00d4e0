/-
  Texts that the laws of this seat lean on, one behind the other.
-/
import Derived.Test.YtjcomlklmfeimaaGreatDoorMrgY
/-
  Plain facts of layer 12 (P12.5), replies; and what was read may be, unless it is too long.
-/
section
namespace Go.Proofs.YtjcomlklmfeimaaGreatDoor
open Go.RowKit

theorem pmP_le (r : Rply) (hd : Bool) : (pmP r hd).size ≤ (pmP r false).size := by
  cases hd with
  | false => exact Nat.le_refl _
  | true =>
    unfold pmP
    rw [mkS_size, mkS_size]
    simp only [List.length_append]
    have h1 : ((if bodL r.c then [] else if true && decide (r.b.size = 0) then [] else clL r.b) : List UInt8).length ≤ ((if bodL r.c then [] else if false && decide (r.b.size = 0) then [] else clL r.b) : List UInt8).length := by
      cases bodL r.c with
      | true => exact Nat.le_refl _
      | false =>
        by_cases hz : r.b.size = 0
        · simp [hz]
        · simp [hz]
    have h2 : ((if bodL r.c || true then [] else r.b.data.toList) : List UInt8).length ≤ ((if bodL r.c || false then [] else r.b.data.toList) : List UInt8).length := by
      rw [Bool.or_true, if_pos rfl]
      exact Nat.zero_le _
    omega

set_option maxHeartbeats 1000000 in
theorem back_p {r : Rply} (h : ckP r = 0) (hd : Bool) (meth : ByteArray) (hm : (meth.toList == [72, 69, 65, 68]) = hd) : ppE (pmP r hd) meth = 0 ∧ ppR (pmP r hd) meth = ⟨r.c, r.r, r.v, r.f, if hd then ⟨#[]⟩ else r.b⟩ := by
  obtain ⟨⟨v0, v1⟩, ⟨c0, c1⟩, hl, hf, hbb, hsz, h64⟩ := ckP_ok h
  have hsz2 := Nat.le_trans (pmP_le r hd) hsz
  obtain ⟨hc, hn, hdr, hcl, hte⟩ := ft_ok hf
  obtain ⟨c, t, v, f, b⟩ := r
  simp only at *
  unfold lpB at hl
  simp only [Bool.and_eq_true] at hl
  obtain ⟨hE, hB⟩ := hl
  have hE : stE (pstS c t v) = 0 := eq_of_beq hE
  have hB := eq_of_toList hB
  obtain ⟨hbk, ⟨u0, u1⟩, uc0, uc1⟩ := st_back hE
  rw [hB] at hbk
  obtain ⟨hN, hV⟩ := pst_inj u0 u1 v0 v1 (by omega) (by omega) hbk
  have hb6 : bodL c = false → b.size ≤ 65536 := fun hbl => by
    refine Nat.le_trans ?_ hsz
    unfold pmP
    rw [mkS_size, List.length_append]
    dsimp only
    rw [hbl]
    show b.size ≤ _ + b.data.toList.length
    rw [← Lib.size_eq]
    omega
  obtain ⟨G, hG⟩ : ∃ G, G = if bodL c then f else if hd && decide (b.size = 0) then f else f ++ [cfF b.size] := ⟨_, rfl⟩
  have hG2 : G = f ∨ (bodL c = false ∧ G = f ++ [cfF b.size]) := by
    rw [hG]
    split
    · exact .inl rfl
    · rename_i h1
      split
      · exact .inl rfl
      · exact .inr ⟨by simpa using h1, rfl⟩
  have hraw : (pmP ⟨c, t, v, f, b⟩ hd).data.toList = lnsP ((pstS c t v).data.toList :: lnF G) ++ (13 :: 10 :: (if bodL c || hd then [] else b.data.toList)) := by
    unfold pmP
    rw [mkS_list, lnsP_cons, lnsL_eq, hG]
    cases bodL c with
    | true => simp
    | false =>
      by_cases hz : (hd && decide (b.size = 0)) = true
      · rw [hz]; simp
      · rw [Bool.not_eq_true] at hz
        rw [hz]
        simp only [Bool.false_eq_true, if_false]
        rw [cl_line]
        unfold lnF lnsP
        simp
  have hGl : G.length ≤ 64 := by
    rcases hG2 with e | ⟨e1, e⟩
    · rw [e]; exact hn
    · have := h64 e1
      rw [e, List.length_append, List.length_singleton]; omega
  have hGb : ∀ x ∈ G, flF (lineS x) = x ∧ flX (lineS x) = 0 := fun x hx => by
    rcases hG2 with e | ⟨e1, e⟩
    · rw [e] at hx; exact lines_back hc x hx
    · rw [e] at hx
      rcases List.mem_append.1 hx with h2 | h2
      · exact lines_back hc x h2
      · rw [List.mem_singleton] at h2
        rw [h2]
        exact cf_back _ (by have := hb6 e1; omega)
  have hG13 : ∀ x ∈ lnF G, x ≠ [] ∧ No13 x := fun x hx => by
    unfold lnF at hx
    obtain ⟨y, hy, rfl⟩ := List.mem_map.1 hx
    rcases hG2 with e | ⟨e1, e⟩
    · rw [e] at hy; exact prp_13 (chk_zero hc y hy).1
    · rw [e] at hy
      rcases List.mem_append.1 hy with h2 | h2
      · exact prp_13 (chk_zero hc y h2).1
      · rw [List.mem_singleton] at h2
        rw [h2]
        exact prp_13 (cf_prp _ (by have := hb6 e1; omega)).1
  obtain ⟨k1, k2, k3⟩ := hd_print hraw (fun x hx => by
    rcases List.mem_cons.1 hx with rfl | h2
    · exact st_line hE
    · exact hG13 x h2)
  obtain ⟨w1, w2⟩ := rw_print hGl hGb
  have e1 : l1S (pmP ⟨c, t, v, f, b⟩ hd) = pstS c t v := by unfold l1S; rw [k1]; exact mkS_self _
  have e2 : rsF (pmP ⟨c, t, v, f, b⟩ hd) = G := by unfold rsF; rw [k1]; exact w2
  have e3 : rsE (pmP ⟨c, t, v, f, b⟩ hd) = 0 := by unfold rsE; rw [k1]; exact w1
  have hGd : fdDrop G frm = f := by
    rcases hG2 with e | ⟨_, e⟩
    · rw [e]; exact hdr
    · rw [e]; exact (all_cf f b.size).2.2.2.trans hdr
  have hhe : heB meth c = (hd || bodL c) := by unfold heB; rw [hm]
  by_cases hno : (hd || bodL c) = true
  · have e4 : hdR (pmP ⟨c, t, v, f, b⟩ hd) = ⟨#[]⟩ := by rw [k2, Bool.or_comm, hno]; rfl
    have hpE : ppE (pmP ⟨c, t, v, f, b⟩ hd) meth = 0 := by
      unfold ppE
      rw [if_neg (by omega), if_neg (by rw [k3]; simp), e1, e3, e4, hN, if_neg (by simp [hE]), if_neg (by omega), if_neg (by simp), hhe, if_pos hno, if_pos (by rfl)]
    refine ⟨hpE, ?_⟩
    unfold ppR
    rw [if_pos hpE, e1, e2, hN, hB, hV, hGd, hhe, if_pos hno]
    cases hd with
    | true => rfl
    | false =>
      have : b = ⟨#[]⟩ := zero_bytes (hbb (by simpa using hno))
      rw [this]; rfl
  · rw [Bool.not_eq_true] at hno
    have hh := Bool.or_eq_false_iff.1 hno
    have hGx : G = f ++ [cfF b.size] := by rw [hG, hh.1, hh.2]; rfl
    have e4 : hdR (pmP ⟨c, t, v, f, b⟩ hd) = b := by rw [k2, hh.1, hh.2]; exact mkS_self _
    have hbod : bodE G b v true = 0 ∧ bodB G b v true = b := by
      obtain ⟨q1, q2, _, _⟩ := all_cf f b.size
      unfold bodE bodB
      rw [hGx, q1, q2, hcl, hte]
      exact bod_len b v true (hb6 hh.2)
    have hpE : ppE (pmP ⟨c, t, v, f, b⟩ hd) meth = 0 := by
      unfold ppE
      rw [if_neg (by omega), if_neg (by rw [k3]; simp), e1, e2, e3, e4, hN, hV, if_neg (by simp [hE]), if_neg (by omega), if_neg (by simp), hhe, if_neg (by rw [hno]; simp)]
      exact hbod.1
    refine ⟨hpE, ?_⟩
    unfold ppR
    rw [if_pos hpE, e1, e2, e4, hN, hB, hV, hGd, hhe, if_neg (by rw [hno]; simp), hbod.2, hh.1]
    rfl

/-! ### What was read may be -/
theorem rw_prp {L : List (List UInt8)} : ∀ x ∈ rwF L, prpF x = true := fun x hx => by
  unfold rwF at hx
  split at hx
  · rename_i h
    obtain ⟨y, hy, rfl⟩ := List.mem_map.1 hx
    have hfs : fsE L = 0 := by
      unfold rwE at h
      split at h
      · cases h
      · exact h
    have hall : ∀ L : List (List UInt8), fsE L = 0 → ∀ y ∈ L, flX (mkS y) = 0 := by
      intro L
      induction L with
      | nil => intro _ y hy; cases hy
      | cons z L ih =>
        intro h y hy
        unfold fsE at h
        by_cases hz : flX (mkS z) = 0
        · rw [if_pos hz] at h
          rcases List.mem_cons.1 hy with rfl | h2
          · exact hz
          · exact ih h y h2
        · rw [if_neg hz] at h; exact absurd h hz
    have h0 := hall L hfs y hy
    have hl : ¬ 8192 < (mkS y).size := fun hl => by rw [(fl_long hl).2] at h0; exact absurd h0 (by decide)
    have ho : flO (mkS y) = true := by
      cases e : flO (mkS y) with
      | true => rfl
      | false => rw [(fl_no hl e).2] at h0; exact absurd h0 (by decide)
    rw [(fl_yes hl ho).1]
    have hp := fl_prp (mkS y)
    rw [ho, Bool.and_eq_true] at hp
    exact hp.2
  · cases hx
theorem ft_read (L : List (List UInt8)) : ftE (fdDrop (rwF L) frm) = 0 ∨ ftE (fdDrop (rwF L) frm) = 4 := by
  have hprp : ∀ x ∈ fdDrop (rwF L) frm, prpF x = true := fun x hx => rw_prp x (drop_mem hx)
  have hc : chkN (fdDrop (rwF L) frm) = 0 ∨ chkN (fdDrop (rwF L) frm) = 4 := by
    unfold chkN
    split
    · exact .inr rfl
    · split
      · rename_i h
        obtain ⟨x, hx, hx2⟩ := List.any_eq_true.1 h
        rw [hprp x hx] at hx2
        cases hx2
      · split
        · exact .inr rfl
        · exact .inl rfl
  unfold ftE
  rcases hc with e | e
  · rw [if_neg (by simp [e]), drop_again, if_neg (by simp)]
    exact .inl rfl
  · rw [if_pos (by rw [e]; decide)]
    exact .inr e
theorem again_q {raw : ByteArray} (h : pqE raw = 0) : ckQ (pqR raw) = 0 ∨ ckQ (pqR raw) = 4 := by
  have hR : pqR raw = ⟨rqA (l1S raw), rqB (l1S raw), rqV (l1S raw), fdDrop (rsF raw) frm, bodB (rsF raw) (hdR raw) (rqV (l1S raw)) false⟩ := by unfold pqR; rw [if_pos h]
  unfold pqE at h
  split at h
  · cases h
  · split at h
    · cases h
    · split at h
      · rename_i h3; exact absurd h h3
      · rename_i h3
        split at h
        · rename_i h4; exact absurd h h4
        · split at h
          · cases h
          · rename_i h5
            have hE : rqE (l1S raw) = 0 := by simpa using h3
            have ho : hoB (rsF raw) (rqV (l1S raw)) = true := by simpa using h5
            obtain ⟨hbk, u0, u1⟩ := rq_back hE
            rw [hR]
            unfold ckQ
            dsimp only
            rw [if_neg (by omega)]
            have hlq : lqB ⟨rqA (l1S raw), rqB (l1S raw), rqV (l1S raw), fdDrop (rsF raw) frm, bodB (rsF raw) (hdR raw) (rqV (l1S raw)) false⟩ = true := by
              unfold lqB
              dsimp only
              rw [hbk, hE]
              simp
            have hho : hoB (fdDrop (rsF raw) frm) (rqV (l1S raw)) = true := by
              unfold hoB at ho ⊢
              rw [drop_host]; exact ho
            rw [if_neg (by rw [hlq]; simp)]
            have hft : ftE (fdDrop (rsF raw) frm) = 0 ∨ ftE (fdDrop (rsF raw) frm) = 4 := ft_read _
            rcases hft with e | e
            · rw [if_neg (by simp [e]), if_neg (by rw [hho]; simp)]
              split
              · exact .inr rfl
              · split
                · exact .inr rfl
                · exact .inl rfl
            · rw [if_pos (by rw [e]; decide)]
              exact .inr e
theorem again_p {raw meth : ByteArray} (h : ppE raw meth = 0) : ckP (ppR raw meth) = 0 ∨ ckP (ppR raw meth) = 4 := by
  have hR : ppR raw meth = ⟨stN (l1S raw), stB (l1S raw), stV' (l1S raw), fdDrop (rsF raw) frm, if heB meth (stN (l1S raw)) then ⟨#[]⟩ else bodB (rsF raw) (hdR raw) (stV' (l1S raw)) true⟩ := by unfold ppR; rw [if_pos h]
  obtain ⟨b, hb, hbz⟩ : ∃ b, (if heB meth (stN (l1S raw)) then ⟨#[]⟩ else bodB (rsF raw) (hdR raw) (stV' (l1S raw)) true) = b ∧ (bodL (stN (l1S raw)) = true → b.size = 0) :=
    ⟨_, rfl, fun g => by rw [if_pos (by unfold heB; rw [g, Bool.or_true])]; rfl⟩
  rw [hb] at hR
  clear hb
  unfold ppE at h
  split at h
  · cases h
  · split at h
    · cases h
    · split at h
      · rename_i h3; exact absurd h h3
      · rename_i h3
        split at h
        · cases h
        · rename_i h4
          have hE : stE (l1S raw) = 0 := by simpa using h3
          obtain ⟨hbk, ⟨u0, u1⟩, uc0, uc1⟩ := st_back hE
          have hlq : lpB ⟨stN (l1S raw), stB (l1S raw), stV' (l1S raw), fdDrop (rsF raw) frm, b⟩ = true := by
            unfold lpB
            dsimp only
            rw [hbk, hE]
            simp
          have hft : ftE (fdDrop (rsF raw) frm) = 0 ∨ ftE (fdDrop (rsF raw) frm) = 4 := ft_read _
          rw [hR]
          generalize fdDrop (rsF raw) frm = F at *
          generalize stN (l1S raw) = c at *
          generalize stB (l1S raw) = s at *
          generalize stV' (l1S raw) = v at *
          unfold ckP
          dsimp only
          rw [if_neg (by omega), if_neg (by rw [hlq]; simp)]
          rcases hft with e | e
          · rw [if_neg (by simp [e]), if_neg (fun g => g.2 (hbz g.1))]
            split
            · exact .inr rfl
            · split
              · exact .inr rfl
              · exact .inl rfl
          · rw [if_pos (by rw [e]; decide)]
            exact .inr e

/-! ### Sizes of what was read -/
theorem l1_le (raw : ByteArray) : (l1S raw).size ≤ raw.size := by
  unfold l1S
  rw [mkS_size]
  cases e : hdL raw with
  | nil => exact Nat.zero_le _
  | cons x tl => exact (hd_le raw).2.2 x (by rw [e]; exact List.mem_cons_self ..)
theorem rs_le (raw : ByteArray) : ∀ x ∈ rsF raw, x.1.size ≤ raw.size ∧ x.2.size ≤ raw.size := fun x hx => by
  unfold rsF rwF at hx
  split at hx
  · obtain ⟨y, hy, rfl⟩ := List.mem_map.1 hx
    have h1 := flF_le (mkS y)
    rw [mkS_size] at h1
    have := (hd_le raw).2.2 y (List.mem_of_mem_tail hy)
    omega
  · cases hx
theorem bodB_le (F : List Fd) (s : ByteArray) (v : Int) (op : Bool) : (bodB F s v op).size ≤ s.size := by
  unfold bodB bdB
  split
  · rename_i h
    split
    · rename_i hT
      have hE : decE s = 0 := by
        rw [bdE_te hT] at h
        split at h
        · split at h
          · rename_i g; exact g
          · exact h
        · cases h
      obtain ⟨k, _, _, h3, h4, _⟩ := dec_again hE
      omega
    · exact Nat.le_refl _
  · exact Nat.zero_le _
theorem lnsL_leB (B : Nat) : ∀ L : List Fd, (∀ x ∈ L, x.1.size ≤ B ∧ x.2.size ≤ B) → (lnsL L).length ≤ L.length * (2 * B + 4)
  | [], _ => Nat.zero_le _
  | x :: L, h => by
    have h1 := lnsL_leB B L fun y hy => h y (List.mem_cons_of_mem _ hy)
    have h2 := h x (List.mem_cons_self ..)
    have h3 := line_size x
    rw [Lib.size_eq] at h3
    have : lnsL (x :: L) = ((lineS x).data.toList ++ [13, 10]) ++ lnsL L := by unfold lnsL; rfl
    rw [this, List.length_append, List.length_append, show (x :: L).length = L.length + 1 from rfl, Nat.add_mul]
    simp only [List.length_cons, List.length_nil]
    omega
theorem rq_parts_le {s : ByteArray} : (rqA s).size ≤ s.size ∧ (rqB s).size ≤ s.size := by
  unfold rqA rqB
  split
  · refine ⟨flA_le s 32, Nat.le_trans (flA_le _ 32) (flZ_le s 32)⟩
  · exact ⟨Nat.zero_le _, Nat.zero_le _⟩
theorem st_part_le {s : ByteArray} : (stB s).size ≤ s.size := by
  unfold stB
  split
  · unfold stR
    rw [ByteArray.size_extract]; omega
  · exact Nat.zero_le _
theorem clL_le (b : ByteArray) (h : b.size ≤ 100000) : (clL b).length ≤ 100 := by
  have := plainL_short (b.size : Int) (by omega) (by omega)
  unfold clL
  rw [List.length_append, List.length_append, show clH.data.toList.length = 16 by decide +kernel]
  simp only [List.length_cons, List.length_nil]
  omega
theorem read_q {raw : ByteArray} (h : pqE raw = 0) (hs : raw.size ≤ 5000) : SmlQ (pqR raw) ∧ (pmQ (pqR raw)).size ≤ 1000000 := by
  have hE : rqE (l1S raw) = 0 := by
    unfold pqE at h
    split at h
    · cases h
    · split at h
      · cases h
      · split at h
        · rename_i h3; exact absurd h h3
        · rename_i h3; simpa using h3
  obtain ⟨_, u0, u1⟩ := rq_back hE
  have hp := rq_parts_le (s := l1S raw)
  have h1 := l1_le raw
  have hf : ∀ x ∈ fdDrop (rsF raw) frm, x.1.size ≤ 5000 ∧ x.2.size ≤ 5000 := fun x hx => by
    have := rs_le raw x (drop_mem hx)
    omega
  have hn : (fdDrop (rsF raw) frm).length ≤ 64 := Nat.le_trans (drop_len _ _) (rsF_len raw)
  have hb := bodB_le (rsF raw) (hdR raw) (rqV (l1S raw)) false
  have hr := (hd_le raw).1
  have hR : pqR raw = ⟨rqA (l1S raw), rqB (l1S raw), rqV (l1S raw), fdDrop (rsF raw) frm, bodB (rsF raw) (hdR raw) (rqV (l1S raw)) false⟩ := by unfold pqR; rw [if_pos h]
  rw [hR]
  refine ⟨⟨by dsimp only; omega, by dsimp only; omega, by dsimp only; omega, ⟨by dsimp only; omega, fun x hx => by have := hf x hx; omega⟩, by dsimp only; omega⟩, ?_⟩
  have hl := lnsL_leB 5000 _ hf
  have hc := clL_le (bodB (rsF raw) (hdR raw) (rqV (l1S raw)) false) (by omega)
  have hz := prq_size (rqA (l1S raw)) (rqB (l1S raw)) (rqV (l1S raw)) u0 u1
  have hm : (fdDrop (rsF raw) frm).length * (2 * 5000 + 4) ≤ 64 * (2 * 5000 + 4) := Nat.mul_le_mul_right _ hn
  unfold pmQ
  dsimp only
  rw [mkS_size]
  simp only [List.length_append, List.length_cons, List.length_nil, ← Lib.size_eq]
  have hi : ((if (bodB (rsF raw) (hdR raw) (rqV (l1S raw)) false).size = 0 then [] else clL (bodB (rsF raw) (hdR raw) (rqV (l1S raw)) false)) : List UInt8).length ≤ 100 := by
    split
    · exact Nat.zero_le _
    · exact hc
  omega
theorem read_p {raw meth : ByteArray} (h : ppE raw meth = 0) (hs : raw.size ≤ 5000) : SmlP (ppR raw meth) ∧ (pmP (ppR raw meth) false).size ≤ 1000000 := by
  have hE : stE (l1S raw) = 0 := by
    unfold ppE at h
    split at h
    · cases h
    · split at h
      · cases h
      · split at h
        · rename_i h3; exact absurd h h3
        · rename_i h3; simpa using h3
  obtain ⟨_, ⟨u0, u1⟩, uc0, uc1⟩ := st_back hE
  have hp := st_part_le (s := l1S raw)
  have h1 := l1_le raw
  have hf : ∀ x ∈ fdDrop (rsF raw) frm, x.1.size ≤ 5000 ∧ x.2.size ≤ 5000 := fun x hx => by
    have := rs_le raw x (drop_mem hx)
    omega
  have hn : (fdDrop (rsF raw) frm).length ≤ 64 := Nat.le_trans (drop_len _ _) (rsF_len raw)
  have hr := (hd_le raw).1
  have hR : ppR raw meth = ⟨stN (l1S raw), stB (l1S raw), stV' (l1S raw), fdDrop (rsF raw) frm, if heB meth (stN (l1S raw)) then ⟨#[]⟩ else bodB (rsF raw) (hdR raw) (stV' (l1S raw)) true⟩ := by unfold ppR; rw [if_pos h]
  have hb : (if heB meth (stN (l1S raw)) then ⟨#[]⟩ else bodB (rsF raw) (hdR raw) (stV' (l1S raw)) true : ByteArray).size ≤ 5000 := by
    split
    · exact Nat.zero_le _
    · have := bodB_le (rsF raw) (hdR raw) (stV' (l1S raw)) true
      omega
  rw [hR]
  generalize (if heB meth (stN (l1S raw)) then ⟨#[]⟩ else bodB (rsF raw) (hdR raw) (stV' (l1S raw)) true : ByteArray) = b at *
  refine ⟨⟨by dsimp only; omega, by dsimp only; omega, ⟨by dsimp only; omega, fun x hx => by have := hf x hx; omega⟩, by dsimp only; omega, by dsimp only; omega⟩, ?_⟩
  have hl := lnsL_leB 5000 _ hf
  have hc := clL_le b (by omega)
  have hz := pst_size (stN (l1S raw)) (stB (l1S raw)) (stV' (l1S raw)) u0 u1 (by omega) (by omega)
  have hm : (fdDrop (rsF raw) frm).length * (2 * 5000 + 4) ≤ 64 * (2 * 5000 + 4) := Nat.mul_le_mul_right _ hn
  unfold pmP
  dsimp only
  rw [mkS_size]
  simp only [List.length_append, List.length_cons, List.length_nil, ← Lib.size_eq]
  have hi : ((if bodL (stN (l1S raw)) then [] else if false && decide (b.size = 0) then [] else clL b) : List UInt8).length ≤ 100 := by
    split
    · exact Nat.zero_le _
    · split
      · exact Nat.zero_le _
      · exact hc
  have hj : ((if bodL (stN (l1S raw)) || false then [] else b.data.toList) : List UInt8).length ≤ 5000 := by
    split
    · exact Nat.zero_le _
    · rw [← Lib.size_eq]; exact hb
  omega

/-! ### No message is both -/
theorem pq_rq {raw : ByteArray} (h : pqE raw = 0) : rqE (l1S raw) = 0 := by
  unfold pqE at h
  split at h
  · cases h
  · split at h
    · cases h
    · split at h
      · rename_i h3; exact absurd h h3
      · rename_i h3; simpa using h3
theorem pp_st {raw meth : ByteArray} (h : ppE raw meth = 0) : stE (l1S raw) = 0 := by
  unfold ppE at h
  split at h
  · cases h
  · split at h
    · cases h
    · split at h
      · rename_i h3; exact absurd h h3
      · rename_i h3; simpa using h3
theorem tok_slash : ∀ (A R Q : List UInt8), allB tokB A = true → A ++ 32 :: R = 72 :: 84 :: 84 :: 80 :: 47 :: Q → False
  | [], _, _, _, h => by simp at h
  | [_], _, _, _, h => by simp at h
  | [_, _], _, _, _, h => by simp at h
  | [_, _, _], _, _, _, h => by simp at h
  | [_, _, _, _], _, _, _, h => by simp at h
  | a :: b :: c :: d :: e :: A, R, Q, ht, h => by
    simp only [List.cons_append, List.cons.injEq] at h
    have he := h.2.2.2.2.1
    unfold allB at ht
    have := List.all_eq_true.1 ht e (by simp)
    rw [he] at this
    exact absurd this (by decide)
theorem not_both {s : ByteArray} (h : rqE s = 0) (g : stE s = 0) : False := by
  obtain ⟨e, h0, h1⟩ := rq_back h
  obtain ⟨e2, _, _, _⟩ := st_back g
  have hl : ¬ 8192 < s.size := fun hl => by rw [(rq_long hl).2.2.2] at h; exact absurd h (by decide)
  have ho : rqO s = true := by
    cases e : rqO s with
    | true => rfl
    | false => rw [(rq_no hl e).2.2.2] at h; exact absurd h (by decide)
  obtain ⟨y1, _, _, _⟩ := rq_yes hl ho
  rw [y1] at e
  unfold rqO rqH tokS at ho
  simp only [Bool.and_eq_true] at ho
  have hl1 := congrArg (fun x : ByteArray => x.data.toList) e
  have hl2 := congrArg (fun x : ByteArray => x.data.toList) e2
  simp only [prq_list] at hl1
  simp only [pst_list] at hl2
  rw [← hl1] at hl2
  exact tok_slash _ _ _ ho.1.1.1.2 hl2.symm
theorem read_one {raw meth : ByteArray} (h : pqE raw = 0) : ppE raw meth ≠ 0 := fun g => not_both (pq_rq h) (pp_st g)

/-- A store elsewhere leaves fields as they were. -/
theorem SlF.setOther {w : World} {A : Option Addr} {n c : Nat} {L : List Fd} (h : SlF w A n c L) {g : Nat} (hg : ∀ ad, A = some ad → ad.block ≠ g) (k : Nat) (v : Value) : SlF (w.setCell ⟨g, k, none⟩ v) A n c L :=
  ⟨h.len, h.cap, h.cm, h.nil, fun hn => by
    obtain ⟨ad, e, hc⟩ := h.at_ hn
    have hne : ∀ j, (⟨g, k, none⟩ : Addr) ≠ ad.add j := fun j he => hg ad e (by rw [← add_blk ad j, ← he])
    exact ⟨ad, e, fun j x hx => ⟨by rw [World.cell?_setCell_other (h := hne _)]; exact (hc j x hx).1, by rw [World.cell?_setCell_other (h := hne _)]; exact (hc j x hx).2⟩⟩, h.sz⟩

end Go.Proofs.YtjcomlklmfeimaaGreatDoor
end
